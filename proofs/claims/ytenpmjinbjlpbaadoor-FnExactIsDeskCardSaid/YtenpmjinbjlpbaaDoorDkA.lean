/- Desks: IsDesk, both sides. -/
import Derived.Test.YtenpmjinbjlpbaaDoorIsRod
import Derived.Test.YtenpmjinbjlpbaaDoorGood
import Derived.Test.YtenpmjinbjlpbaaDoorWoM
namespace Go.Proofs.YtenpmjinbjlpbaaDoor
open Go.RowKit

def deskB (L : Int) (l : List (Int × Int)) (s : ByteArray) : Bool := goodB L l && okW s.data.toList

set_option maxHeartbeats 1000000 in
theorem coGood_any (L : Int) (A : Option Addr) (c : Nat) (l : List (Int × Int)) (s : ByteArray) (w : World) (hs : s.size ≤ 1048576) (hA : AntsAt w A l) :
    Calls Tryd.prog 30 #[.agg #[.int .i64 L, .slice A l.length c, .string s]] w fun e w' => e = .returned (.bool (deskB L l s)) ∧ Below w.heap.size w w' := by
  have HA := Lib.hid (hA.alloc (Obj.cells #[Value.int IntKind.i64 L, Value.slice A l.length c, Value.string s] 26))
  have HG := Lib.hid (fun w h => roGood_any L A c l w h)
  have HW := Lib.hid (fun w => woGood_any s hs w)
  clear hA
  unfold deskB
  generalize goodB L l = r1 at *
  generalize okW s.data.toList = r2 at *
  cases r1 with
  | false =>
    go_enter Tryd.func30, Tryd.ntmps30
    go_wp2_with fail
    refine (HG.out _ HA.out).mono ?_
    rintro e w1 ⟨rfl, hb⟩
    go_wp2
    go_ret
    exact ⟨ret_bool rfl, ((Below.refl _ _).alloc (Nat.le_refl _) _).trans (hb.mono (by simp))⟩
  | true =>
    go_enter Tryd.func30, Tryd.ntmps30
    go_wp2_with fail
    refine (HG.out _ HA.out).mono ?_
    rintro e w1 ⟨rfl, hb⟩
    have c2 : w1.cell? ⟨w.heap.size, 2, none⟩ = some (.string s) := by rw [hb.cell (p := ⟨w.heap.size, 2, none⟩) (by simp)]; simp [go_sem]
    go_wp2_with fail
    refine (HW.out _).mono ?_
    rintro e w2 ⟨rfl, rfl⟩
    go_wp2
    go_ret
    exact ⟨ret_bool (by simp), ((Below.refl _ _).alloc (Nat.le_refl _) _).trans (hb.mono (by simp))⟩
set_option maxHeartbeats 1000000 in
theorem specIsDesk_any (L : Int) (A : Option Addr) (c : Nat) (l : List (Int × Int)) (s : ByteArray) (w : World) (hs : s.size ≤ 1048576) (hA : AntsAt w A l) :
    Calls Tryd.prog 13 #[.agg #[.int .i64 L, .slice A l.length c, .string s]] w fun e w' => e = .returned (.bool (deskB L l s)) ∧ Below w.heap.size w w' := by
  have HA := Lib.hid (hA.alloc (Obj.cells #[Value.int IntKind.i64 L, Value.slice A l.length c, Value.string s] 26))
  have HG := Lib.hid (fun w h => coGood_any L A c l s w hs h)
  clear hA
  go_enter Tryd.func13, Tryd.ntmps13
  go_wp2_with fail
  refine (HG.out _ HA.out).mono ?_
  rintro e w1 ⟨rfl, hb⟩
  go_wp2
  go_ret
  exact ⟨ret_bool rfl, ((Below.refl _ _).alloc (Nat.le_refl _) _).trans (hb.mono (by simp))⟩
set_option maxHeartbeats 1000000 in
theorem implIsDesk_any (L : Int) (A : Option Addr) (c : Nat) (l : List (Int × Int)) (s : ByteArray) (w : World) (hs : s.size ≤ 1048576) (hA : AntsAt w A l) :
    Calls Tryd.prog 15 #[.agg #[.int .i64 L, .slice A l.length c, .string s]] w fun e w' => e = .returned (.bool (deskB L l s)) ∧ Below w.heap.size w w' := by
  have HA := Lib.hid (hA.alloc (Obj.cells #[Value.int IntKind.i64 L, Value.slice A l.length c, Value.string s] 26))
  have HG := Lib.hid (fun w h => isRod_any L A c l w h)
  have HW := Lib.hid (fun w => isWord_any s hs w)
  clear hA
  unfold deskB
  generalize goodB L l = r1 at *
  generalize okW s.data.toList = r2 at *
  cases r1 with
  | false =>
    go_enter Tryd.func15, Tryd.ntmps15
    go_wp2_with fail
    refine (HG.out _ HA.out).mono ?_
    rintro e w1 ⟨rfl, hb⟩
    go_wp2
    go_ret
    exact ⟨ret_bool rfl, ((Below.refl _ _).alloc (Nat.le_refl _) _).trans (hb.mono (by simp))⟩
  | true =>
    go_enter Tryd.func15, Tryd.ntmps15
    go_wp2_with fail
    refine (HG.out _ HA.out).mono ?_
    rintro e w1 ⟨rfl, hb⟩
    have c2 : w1.cell? ⟨w.heap.size, 2, none⟩ = some (.string s) := by rw [hb.cell (p := ⟨w.heap.size, 2, none⟩) (by simp)]; simp [go_sem]
    have HB1 := Lib.hid (((Below.refl _ _).alloc (Nat.le_refl _) _).trans (hb.mono (by simp)))
    clear hb
    go_wp2_with fail
    refine (HW.out _).mono ?_
    rintro e w2 ⟨rfl, hb2⟩
    have HB2 := Lib.hid (HB1.out.trans (hb2.mono HB1.out.size))
    clear hb2
    go_wp2
    go_ret
    exact ⟨ret_bool (by simp), HB2.out⟩
end Go.Proofs.YtenpmjinbjlpbaaDoor
