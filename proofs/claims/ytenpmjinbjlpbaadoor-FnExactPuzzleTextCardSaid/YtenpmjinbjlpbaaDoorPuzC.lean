/- Puzzles on the model's side: pzGood, IsPuzzle. -/
import Derived.Test.YtenpmjinbjlpbaaDoorPuzB
namespace Go.Proofs.YtenpmjinbjlpbaaDoor
open Go.RowKit

theorem trip_at {w : World} {A : Option Addr} {l : List (Int × Int × Int)} (h : SlAt tripS w A l) {k : Nat} (hk : k < l.length) :
    ∃ b off, A = some ⟨b, off, none⟩ ∧ b < w.heap.size ∧ w.cell? ⟨b, off + k * 3, none⟩ = some (.int .i64 (l[k]'hk).1) ∧ w.cell? ⟨b, off + k * 3 + 1, none⟩ = some (.int .i64 (l[k]'hk).2.1) ∧ w.cell? ⟨b, off + k * 3 + 2, none⟩ = some (.int .i64 (l[k]'hk).2.2) := by
  obtain ⟨b, off, hA, hlt, hc⟩ := h.at_ hk
  have hx := List.getElem?_eq_getElem hk
  exact ⟨b, off, hA, hlt, hc k _ hx 0 (by decide), hc k _ hx 1 (by decide), hc k _ hx 2 (by decide)⟩
theorem clues_take {n : Int} {cs : List (Int × Int × Int)} {k : Nat} (hk : k < cs.length) (h : ∀ j, j < k → ∀ x, cs[j]? = some x → pclB n x = true) (hx : pclB n cs[k] = true) : ∀ j, j < k + 1 → ∀ x, cs[j]? = some x → pclB n x = true := by
  intro j hj x hjx
  by_cases he : j < k
  · exact h j he x hjx
  · obtain rfl : j = k := by omega
    rw [List.getElem?_eq_getElem hk] at hjx
    injection hjx with hjx
    rw [← hjx]; exact hx
theorem clues_yes {n : Int} {cs : List (Int × Int × Int)} (h : ∀ j, j < cs.length → ∀ x, cs[j]? = some x → pclB n x = true) : cluesB n cs = true := by
  unfold cluesB
  rw [List.all_eq_true]
  intro x hx
  obtain ⟨j, hj, rfl⟩ := List.getElem_of_mem hx
  exact h j hj _ (List.getElem?_eq_getElem hj)
theorem clues_no {n : Int} {cs : List (Int × Int × Int)} {k : Nat} (hk : k < cs.length) (hx : pclB n cs[k] = false) : cluesB n cs = false := by
  unfold cluesB
  rw [List.all_eq_false]
  exact ⟨_, List.getElem_mem hk, by rw [hx]; simp⟩

set_option maxRecDepth 100000 in
set_option maxHeartbeats 2000000 in
theorem pzGood_in (L : Int) (A C : Option Addr) (c d : Nat) (l : List Int) (cs : List (Int × Int × Int)) (w : World) (h1 : hplB L l = true) (h2 : cs.length ≤ 6) (hl : l.length ≤ 8) (hl0 : 1 ≤ l.length) (hA : SlAt intS w A l) (hC : SlAt tripS w C cs) :
    Calls Tryd.prog 36 #[.agg #[.int .i64 L, .slice A l.length c, .slice C cs.length d]] w fun e w' => e = .returned (.bool (cluesB l.length cs)) ∧ Below w.heap.size w w' := by
  have HA := Lib.hid (hA.alloc (Obj.cells #[Value.int IntKind.i64 L, Value.slice A l.length c, Value.slice C cs.length d] 49))
  have HC := Lib.hid (hC.alloc (Obj.cells #[Value.int IntKind.i64 L, Value.slice A l.length c, Value.slice C cs.length d] 49))
  have HP := Lib.hid (fun w h => pzPlaces_at L A c l true h1 w (by omega) h)
  have HCL := Lib.hid (fun k a b w => pzClue_any l.length k a b w (by omega) (by omega))
  clear hA hC h1
  have hc6 : (cs.length : Int) ≤ 6 := by omega
  go_enter Tryd.func36, Tryd.ntmps36
  go_wp2_with fail
  refine (HP.out _ HA.out).mono ?_
  rintro e w' ⟨rfl, rfl⟩
  go_wp2
  go_loopw [20] (fun i wr => ∃ k : Nat, k ≤ cs.length ∧ i = .int .i64 k ∧ Below w.heap.size w wr ∧ w.heap.size < wr.heap.size ∧ wr.cell? ⟨w.heap.size, 1, none⟩ = some (.slice A l.length c) ∧ SlAt tripS wr C cs ∧ ∀ j, j < k → ∀ x, cs[j]? = some x → pclB l.length x = true)
    (fun i _ => cs.length - (intOf i).toNat)
  case atStart => exact ⟨0, Nat.zero_le _, rfl, (Below.refl _ _).alloc (Nat.le_refl _) _, by simp, by simp [go_sem], HC.out, fun j hj => absurd hj (by omega)⟩
  case round =>
    obtain ⟨k, hk, rfl, hb, hsz, z1, hcs, hall⟩ := hrel
    have HB := Lib.hid hb
    have HALL := Lib.hid hall
    have HCS := Lib.hid hcs
    clear hall hb hcs
    by_cases hlt : k < cs.length
    · obtain ⟨b, off, rfl, l0, a0, a1, a2⟩ := trip_at HCS.out hlt
      have HT := Lib.hid (clues_take hlt HALL.out)
      have HN := Lib.hid (clues_no (n := l.length) hlt)
      generalize cs[k] = x at *
      obtain ⟨x1, x2, x3⟩ := x
      simp only at a0 a1 a2
      have hkl : (k : Int) < (cs.length : Int) := by omega
      cases hx : clB l.length x1 x2 x3 with
      | true =>
        have HX := Lib.hid (fun w => pzClue_at l.length x1 x2 x3 true hx w (by omega) (by omega))
        have HTX : Hid (pclB l.length (x1, x2, x3) = true) := hx
        clear hx
        go_wp2_with fail
        refine (HX.out _).mono ?_
        rintro e w1 ⟨rfl, hb1⟩
        have HB1 : Hid (Below wr.heap.size wr w1) := ((Below.refl _ _).alloc (Nat.le_refl _) _).trans (hb1.mono (by simp))
        have z1' : w1.cell? ⟨w.heap.size, 1, none⟩ = some (.slice A l.length c) := (HB1.out.cell (p := ⟨w.heap.size, 1, none⟩) (by simp; omega)).trans z1
        clear hb1
        go_wp2
        go_roundw
        case rel => exact ⟨k + 1, by omega, by go_num, HB.out.trans (HB1.out.mono (by omega)), by have := HB1.out.size; omega, z1', HCS.out.below HB1.out, HT.out HTX.out⟩
        case measure => simp [intOf]; omega
      | false =>
        have HX := Lib.hid (fun w => pzClue_at l.length x1 x2 x3 false hx w (by omega) (by omega))
        have HTX : Hid (pclB l.length (x1, x2, x3) = false) := hx
        clear hx
        go_wp2_with fail
        refine (HX.out _).mono ?_
        rintro e w1 ⟨rfl, hb1⟩
        have HB1 : Hid (Below wr.heap.size wr w1) := ((Below.refl _ _).alloc (Nat.le_refl _) _).trans (hb1.mono (by simp))
        clear hb1
        go_wp2
        go_ret
        exact ⟨ret_bool (HN.out HTX.out).symm, HB.out.trans (HB1.out.mono (by omega))⟩
    · have hkl : ¬ (k : Int) < (cs.length : Int) := by omega
      go_wp2
      go_ret
      exact ⟨ret_bool (clues_yes (fun j hj => HALL.out j (by omega))).symm, HB.out⟩

set_option maxHeartbeats 1000000 in
theorem pzGood_any (L : Int) (A C : Option Addr) (c d : Nat) (l : List Int) (cs : List (Int × Int × Int)) (w : World) (hn : (l.length : Int) ≤ 9223372036854775807) (hA : SlAt intS w A l) (hC : SlAt tripS w C cs) :
    Calls Tryd.prog 36 #[.agg #[.int .i64 L, .slice A l.length c, .slice C cs.length d]] w fun e w' => e = .returned (.bool (puzB L l cs)) ∧ Below w.heap.size w w' := by
  have HA := Lib.hid (hA.alloc (Obj.cells #[Value.int IntKind.i64 L, Value.slice A l.length c, Value.slice C cs.length d] 49))
  cases h1 : hplB L l with
  | false =>
    have HV : Hid (puzB L l cs = false) := by show _ = _; unfold puzB; simp [h1]
    have HP := Lib.hid (fun w h => pzPlaces_at L A c l false h1 w hn h)
    clear h1 hA hC
    go_enter Tryd.func36, Tryd.ntmps36
    go_wp2_with (go_at_call 68; refine (HP.out _ HA.out).mono ?_; rintro e w' ⟨rfl, rfl⟩)
    go_ret
    exact ⟨ret_bool HV.out.symm, (Below.refl _ _).alloc (Nat.le_refl _) _⟩
  | true =>
    by_cases h2 : cs.length ≤ 6
    · have hl := h1
      unfold hplB at hl
      simp only [Bool.and_eq_true] at hl
      have hl2 := (inB_iff _ _ _).1 hl.1.1.2
      have e : puzB L l cs = cluesB l.length cs := by unfold puzB; simp [h1, h2]
      rw [e]
      exact pzGood_in L A C c d l cs w h1 h2 (by omega) (by omega) hA hC
    · have HV : Hid (puzB L l cs = false) := by show _ = _; unfold puzB; simp [h2]
      have HP := Lib.hid (fun w h => pzPlaces_at L A c l true h1 w hn h)
      have hc6 : ¬ (cs.length : Int) ≤ 6 := by omega
      have hc7 : (6 : Int) < (cs.length : Int) := by omega
      clear h1 h2 hA hC
      go_enter Tryd.func36, Tryd.ntmps36
      go_wp2_with (go_at_call 68; refine (HP.out _ HA.out).mono ?_; rintro e w' ⟨rfl, rfl⟩)
      go_ret
      exact ⟨ret_bool HV.out.symm, (Below.refl _ _).alloc (Nat.le_refl _) _⟩
theorem pzGood_at (L : Int) (A C : Option Addr) (c d : Nat) (l : List Int) (cs : List (Int × Int × Int)) (r : Bool) (hr : puzB L l cs = r) (w : World) (hn : (l.length : Int) ≤ 9223372036854775807) (hA : SlAt intS w A l) (hC : SlAt tripS w C cs) :
    Calls Tryd.prog 36 #[.agg #[.int .i64 L, .slice A l.length c, .slice C cs.length d]] w fun e w' => e = .returned (.bool r) ∧ Below w.heap.size w w' := by
  subst hr; exact pzGood_any L A C c d l cs w hn hA hC
end Go.Proofs.YtenpmjinbjlpbaaDoor
