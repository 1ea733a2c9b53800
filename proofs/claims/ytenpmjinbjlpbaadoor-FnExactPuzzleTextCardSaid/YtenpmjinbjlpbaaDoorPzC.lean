/- Puzzles, the program: arePlacesOfPuzzle, IsClue, IsPuzzle, hiddenPlaces. -/
import Derived.Test.YtenpmjinbjlpbaaDoorPzB
import Derived.Test.YtenpmjinbjlpbaaDoorPuzC
namespace Go.Proofs.YtenpmjinbjlpbaaDoor
open Go.RowKit

theorem hplB_pl (L : Int) (l : List Int) : hplB L l = (decide (l.length ≤ 8) && plB L l) := by
  unfold hplB plB
  rw [rowB_parts, Bool.eq_iff_iff]
  simp only [Bool.and_eq_true, decide_eq_true_eq, inB_iff]
  constructor
  · rintro ⟨⟨⟨h1, h2⟩, h3⟩, h4⟩; exact ⟨by omega, ⟨h1, by omega, by omega⟩, h3, h4⟩
  · rintro ⟨h0, ⟨h1, h2, h5⟩, h3, h4⟩; exact ⟨⟨⟨h1, by omega⟩, h3⟩, h4⟩
theorem slAt_trip1 {w : World} {g : Nat} {x y z : Int} {e : TypeId} {m : Nat × Nat} (h : w.heap[g]? = some (.cells #[.int .i64 x, .int .i64 y, .int .i64 z] e m)) : SlAt tripS w (some ⟨g, 0, none⟩) [(x, y, z)] := by
  refine .inr ⟨g, 0, rfl, (Array.getElem?_eq_some_iff.1 h).1, fun k u hk j hj => ?_⟩
  cases k with
  | succ k => simp at hk
  | zero =>
    simp only [List.getElem?_cons_zero, Option.some.injEq] at hk
    subst hk
    simp only [Nat.zero_mul, Nat.zero_add]
    rw [cell_of_row w g j _ _ _ h, ← Array.getElem?_toList]
    rfl

set_option maxHeartbeats 1000000 in
theorem placesP_any (L : Int) (A : Option Addr) (c : Nat) (l : List Int) (w : World) (hn : (l.length : Int) ≤ 9223372036854775807) (hA : SlAt intS w A l) :
    Calls Tryd.prog 72 #[.int .i64 L, .slice A l.length c] w fun e w' => e = .returned (.bool (hplB L l)) ∧ Below w.heap.size w w' := by
  by_cases h8 : l.length ≤ 8
  · have HV : Hid (hplB L l = plB L l) := by show _ = _; rw [hplB_pl]; simp [h8]
    have HP := Lib.hid (fun w h => arePlaces_any L A c l w hn h)
    have HA := Lib.hid hA
    have h9 : (l.length : Int) ≤ 8 := by omega
    clear hA
    rw [HV.out]
    go_enter Tryd.func72, Tryd.ntmps72
    go_wp2_with fail
    refine (HP.out _ HA.out).mono ?_
    rintro e w1 ⟨rfl, hb⟩
    go_wp2
    go_ret
    exact ⟨rfl, hb⟩
  · have HV : Hid (hplB L l = false) := by show _ = _; rw [hplB_pl]; simp [h8]
    have h9 : ¬ (l.length : Int) ≤ 8 := by omega
    have h10 : (8 : Int) < (l.length : Int) := by omega
    rw [HV.out]
    clear hA
    go_enter Tryd.func72, Tryd.ntmps72
    go_wp2
    go_ret
    exact ⟨rfl, Below.refl _ _⟩
theorem placesP_at (L : Int) (A : Option Addr) (c : Nat) (l : List Int) (r : Bool) (hr : hplB L l = r) (w : World) (hn : (l.length : Int) ≤ 9223372036854775807) (hA : SlAt intS w A l) :
    Calls Tryd.prog 72 #[.int .i64 L, .slice A l.length c] w fun e w' => e = .returned (.bool r) ∧ Below w.heap.size w w' := by
  subst hr; exact placesP_any L A c l w hn hA


set_option maxRecDepth 100000 in
set_option maxHeartbeats 1000000 in
theorem implIsPuzzle_any (L : Int) (A C : Option Addr) (c d : Nat) (l : List Int) (cs : List (Int × Int × Int)) (w : World) (hn : (l.length : Int) ≤ 9223372036854775807) (hm : (cs.length : Int) ≤ 9223372036854775807) (hA : SlAt intS w A l) (hC : SlAt tripS w C cs) :
    Calls Tryd.prog 40 #[.agg #[.int .i64 L, .slice A l.length c, .slice C cs.length d]] w fun e w' => e = .returned (.bool (puzB L l cs)) ∧ Below w.heap.size w w' := by
  have HA := Lib.hid (hA.alloc (Obj.cells #[Value.int IntKind.i64 L, Value.slice A l.length c, Value.slice C cs.length d] 49))
  have HCs := Lib.hid hC
  clear hA hC
  cases h1 : hplB L l with
  | false =>
    have HV : Hid (puzB L l cs = false) := by show _ = _; simp [puzB, h1]
    have HP := Lib.hid (fun w h => placesP_at L A c l false h1 w hn h)
    clear h1
    rw [HV.out]
    go_enter Tryd.func40, Tryd.ntmps40
    go_wp2_with fail
    refine (HP.out _ HA.out).mono ?_
    rintro e w1 ⟨rfl, hb⟩
    go_wp2
    go_ret
    exact ⟨rfl, ((Below.refl _ _).alloc (Nat.le_refl _) _).trans (hb.mono (by simp))⟩
  | true =>
    have hl := hplB_plB h1
    have HP := Lib.hid (fun w h => placesP_at L A c l true h1 w hn h)
    have hl2 := ((plB_iff L l).1 hl).2.1
    by_cases h2 : cs.length ≤ 6
    · have HV : Hid (puzB L l cs = cluesB l.length cs) := by show _ = _; simp [puzB, h1, h2]
      have HC := Lib.hid (fun w h => areClues_any l.length C d cs w (by omega) (by omega) h)
      have h6 : (cs.length : Int) ≤ 6 := by omega
      clear h1 hl
      rw [HV.out]
      go_enter Tryd.func40, Tryd.ntmps40
      go_wp2_with fail
      refine (HP.out _ HA.out).mono ?_
      rintro e w1 ⟨rfl, hb⟩
      have k1 : w1.cell? ⟨w.heap.size, 1, none⟩ = some (.slice A l.length c) := by rw [hb.cell (p := ⟨w.heap.size, 1, none⟩) (by simp)]; simp
      have k2 : w1.cell? ⟨w.heap.size, 2, none⟩ = some (.slice C cs.length d) := by rw [hb.cell (p := ⟨w.heap.size, 2, none⟩) (by simp)]; simp
      have HB := Lib.hid (((Below.refl _ w).alloc (Nat.le_refl _) (Obj.cells #[Value.int IntKind.i64 L, Value.slice A l.length c, Value.slice C cs.length d] 49)).trans (hb.mono (by simp)))
      clear hb
      go_wp2_with fail
      refine (HC.out _ (HCs.out.below HB.out)).mono ?_
      rintro e w2 ⟨rfl, hb2⟩
      have HB2 := Lib.hid (HB.out.trans (hb2.mono HB.out.size))
      clear hb2
      go_wp2
      go_ret
      exact ⟨rfl, HB2.out⟩
    · have HV : Hid (puzB L l cs = false) := by show _ = _; simp [puzB, h2]
      have h6 : ¬ (cs.length : Int) ≤ 6 := by omega
      have h7 : (6 : Int) < (cs.length : Int) := by omega
      clear h1 hl
      rw [HV.out]
      go_enter Tryd.func40, Tryd.ntmps40
      go_wp2_with fail
      refine (HP.out _ HA.out).mono ?_
      rintro e w1 ⟨rfl, hb⟩
      have k1 : w1.cell? ⟨w.heap.size, 1, none⟩ = some (.slice A l.length c) := by rw [hb.cell (p := ⟨w.heap.size, 1, none⟩) (by simp)]; simp
      have k2 : w1.cell? ⟨w.heap.size, 2, none⟩ = some (.slice C cs.length d) := by rw [hb.cell (p := ⟨w.heap.size, 2, none⟩) (by simp)]; simp
      have HB := Lib.hid (((Below.refl _ w).alloc (Nat.le_refl _) (Obj.cells #[Value.int IntKind.i64 L, Value.slice A l.length c, Value.slice C cs.length d] 49)).trans (hb.mono (by simp)))
      clear hb
      go_wp2
      go_ret
      exact ⟨rfl, HB.out⟩
theorem implIsPuzzle_at (L : Int) (A C : Option Addr) (c d : Nat) (l : List Int) (cs : List (Int × Int × Int)) (r : Bool) (hr : puzB L l cs = r) (w : World) (hn : (l.length : Int) ≤ 9223372036854775807) (hm : (cs.length : Int) ≤ 9223372036854775807) (hA : SlAt intS w A l) (hC : SlAt tripS w C cs) :
    Calls Tryd.prog 40 #[.agg #[.int .i64 L, .slice A l.length c, .slice C cs.length d]] w fun e w' => e = .returned (.bool r) ∧ Below w.heap.size w w' := by
  subst hr; exact implIsPuzzle_any L A C c d l cs w hn hm hA hC
end Go.Proofs.YtenpmjinbjlpbaaDoor
