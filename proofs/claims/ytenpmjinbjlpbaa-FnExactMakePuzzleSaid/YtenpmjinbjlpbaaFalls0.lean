/- CountFalls: the contracts of the program's and of the model's, and of roLeft. -/
import Derived.Test.YtenpmjinbjlpbaaThat
import Derived.Deep.RegionHeld3
namespace Go.Proofs.Ytenpmjinbjlpbaa
open Go.RowKit

/-- how many go to the left -/
def nL (L : Int) (l : List (Int × Int)) : Nat := (way (-1) (gsOf L l)).length
theorem gsOf_len (L : Int) (l : List (Int × Int)) : (gsOf L l).length = l.length := by simp [gsOf]
theorem gsOf_nil (L : Int) : gsOf L [] = [] := rfl
theorem nL_le (L : Int) (l : List (Int × Int)) : nL L l ≤ l.length := by
  have := way_len (-1) (gsOf L l)
  rw [gsOf_len] at this
  exact this
theorem nL_snoc_yes (L : Int) (l : List (Int × Int)) (k : Nat) (a : Int) (hx : l[k]? = some (a, -1)) : nL L (l.take (k + 1)) = nL L (l.take k) + 1 := by
  unfold nL
  rw [gsOf_take L l k _ hx, way_snoc_yes _ _ _ rfl, List.length_append]
  rfl
theorem nL_snoc_no (L : Int) (l : List (Int × Int)) (k : Nat) (a : Int) (hx : l[k]? = some (a, 1)) : nL L (l.take (k + 1)) = nL L (l.take k) := by
  unfold nL
  rw [gsOf_take L l k _ hx, way_snoc_no _ _ _ rfl]
theorem ways_sum {L : Int} {l : List (Int × Int)} (hg : goodB L l = true) : (way 1 (gsOf L l)).length + nL L l = l.length := by
  have key : ∀ k, k ≤ l.length → (way 1 (gsOf L (l.take k))).length + nL L (l.take k) = k := by
    intro k
    induction k with
    | zero => intro _; simp [gsOf_nil, way, nL]
    | succ k ih =>
      intro hk
      have hx : l[k]? = some (l[k]'hk) := List.getElem?_eq_getElem hk
      have hw := (good_ant hg hx).2.2.2
      have hi := ih (by omega)
      generalize l[k]'hk = x at *
      obtain ⟨a, y⟩ := x
      simp only at hw
      rcases hw with rfl | rfl
      · rw [nL_snoc_yes L l k a hx, gsOf_take L l k _ hx, way_snoc_no _ _ _ rfl]; omega
      · rw [nL_snoc_no L l k a hx, gsOf_take L l k _ hx, way_snoc_yes _ _ _ rfl, List.length_append]; simp; omega
  have := key l.length (Nat.le_refl _)
  rwa [List.take_length] at this

set_option maxHeartbeats 1000000 in
theorem roLeft_good (L : Int) (A : Option Addr) (c : Nat) (l : List (Int × Int)) (w : World) (hg : goodB L l = true) (hA : AntsAt w A l) :
    Calls Try.prog 39 #[.agg #[.int .i64 L, .slice A l.length c]] w fun e w' => e = .returned (.int .i64 (nL L l : Int)) ∧ Below w.heap.size w w' := by
  have hn := good_len hg
  have HA := Lib.hid hA
  have HG := Lib.hid hg
  clear hA hg
  go_enter Try.func39, Try.ntmps39
  go_wp2
  go_loopw [3, 9] (fun m i wr => ∃ k : Nat, k ≤ l.length ∧ i = .int .i64 k ∧ m = .int .i64 (nL L (l.take k) : Int) ∧ Below (w.heap.size + 1) (w.alloc (Obj.cells #[Value.int IntKind.i64 L, Value.slice A l.length c] 47)) wr)
    (fun _ i _ => l.length - (intOf i).toNat)
  case atStart => exact ⟨0, Nat.zero_le _, rfl, by simp [nL, gsOf_nil, way], Below.refl _ _⟩
  case round =>
    obtain ⟨k, hk, rfl, rfl, hb⟩ := hrel
    have HB := Lib.hid hb
    have hs1 : w.heap.size < wr.heap.size := by have := hb.size; simp at this; omega
    have HAr := Lib.hid (HA.out.below (((Below.refl _ _).alloc (Nat.le_refl _) _).trans (hb.mono (by simp))))
    clear hb
    by_cases hlt : k < l.length
    · obtain ⟨b, off, rfl, l0, hc⟩ := HAr.out.at_ hlt
      obtain ⟨a0, a1⟩ := hc k hlt
      have hx : l[k]? = some (l.getD k (0, 0)) := by rw [List.getD_eq_getElem?_getD, List.getElem?_eq_getElem hlt]; rfl
      have hw := (good_ant HG.out hx).2.2.2
      have hle : nL L (l.take k) ≤ 16 := by have := nL_le L (l.take k); have h2 : (l.take k).length ≤ k := List.length_take_le _ _; omega
      clear hc
      generalize l.getD k (0, 0) = x at *
      obtain ⟨x1, x2⟩ := x
      simp only at a0 a1 hw
      rcases hw with rfl | rfl
      · have HM := Lib.hid (nL_snoc_yes L l k x1 hx)
        clear hx
        generalize nL L (l.take k) = m at *
        go_wp2
        go_roundw
        case rel => exact ⟨k + 1, by omega, by go_num, by rw [HM.out]; go_num, HB.out.trans (((Below.refl _ _).alloc (Nat.le_refl _) _).mono (by omega))⟩
        case measure => simp [intOf]; omega
      · have HM := Lib.hid (nL_snoc_no L l k x1 hx)
        clear hx
        generalize nL L (l.take k) = m at *
        go_wp2
        go_roundw
        case rel => exact ⟨k + 1, by omega, by go_num, by rw [HM.out], HB.out.trans (((Below.refl _ _).alloc (Nat.le_refl _) _).mono (by omega))⟩
        case measure => simp [intOf]; omega
    · obtain rfl : k = l.length := by omega
      have HE : Hid (l.take l.length = l) := List.take_length
      go_wp2
      go_ret
      exact ⟨ret_int (by rw [HE.out]), ((Below.refl _ _).alloc (Nat.le_refl _) _).trans (HB.out.mono (by simp))⟩

/-- what CountFalls returns -/
def cfL (L : Int) (l : List (Int × Int)) : Int := if goodB L l then (nL L l : Int) else 0
def cfR (L : Int) (l : List (Int × Int)) : Int := if goodB L l then (l.length : Int) - (nL L l : Int) else 0

theorem ret_iib {a b c d : Int} {x y : Bool} (h : a = b) (h2 : c = d) (h' : x = y) : Ending.returned (.tuple #[.int .i64 a, .int .i64 c, .bool x]) = .returned (.tuple #[.int .i64 b, .int .i64 d, .bool y]) := by rw [h, h2, h']


set_option maxRecDepth 100000 in
set_option maxHeartbeats 1000000 in
theorem implCountFalls_any (L : Int) (A : Option Addr) (c : Nat) (l : List (Int × Int)) (w : World) (hA : AntsAt w A l) :
    Calls Try.prog 63 #[.agg #[.int .i64 L, .slice A l.length c]] w fun e w' => e = .returned (.tuple #[.int .i64 (cfL L l), .int .i64 (cfR L l), .bool (goodB L l)]) ∧ Below w.heap.size w w' := by
  have HA := Lib.hid (hA.alloc (Obj.cells #[Value.int IntKind.i64 L, Value.slice A l.length c] 47))
  clear hA
  cases hg : goodB L l with
  | false =>
    have HV : Hid (cfL L l = 0 ∧ cfR L l = 0) := by show _ ∧ _; simp [cfL, cfR, hg]
    have HG : Hid (∀ w, AntsAt w A l → Calls Try.prog 62 #[.agg #[.int .i64 L, .slice A l.length c]] w fun e w' => e = .returned (.bool false) ∧ Below w.heap.size w w') := fun w h => by
      rw [← hg]; exact isRod_any L A c l w h
    clear hg
    go_enter Try.func63, Try.ntmps63
    go_wp2_with fail
    refine (HG.out _ HA.out).mono ?_
    rintro e w1 ⟨rfl, hb⟩
    go_wp2
    go_ret3
    exact ⟨ret_iib HV.out.1.symm HV.out.2.symm rfl, ((Below.refl _ _).alloc (Nat.le_refl _) _).trans (hb.mono (by simp))⟩
  | true =>
    have HV : Hid (cfL L l = (way (-1) (gsOf L l)).length ∧ cfR L l = (way 1 (gsOf L l)).length) := by
      show _ ∧ _
      have := ways_sum hg
      simp only [cfL, cfR, hg, if_true, nL] at this ⊢
      exact ⟨trivial, by omega⟩
    have HG : Hid (∀ w, AntsAt w A l → Calls Try.prog 62 #[.agg #[.int .i64 L, .slice A l.length c]] w fun e w' => e = .returned (.bool true) ∧ Below w.heap.size w w') := fun w h => by
      rw [← hg]; exact isRod_any L A c l w h
    have hn := good_len hg
    clear hg
    go_enter Try.func63, Try.ntmps63
    go_wp2_with fail
    refine (HG.out _ HA.out).mono ?_
    rintro e w1 ⟨rfl, hb⟩
    have c0 : w1.cell? ⟨w.heap.size, 0, none⟩ = some (.int .i64 L) := by rw [hb.cell (p := ⟨w.heap.size, 0, none⟩) (by simp)]; simp
    have c1 : w1.cell? ⟨w.heap.size, 1, none⟩ = some (.slice A l.length c) := by rw [hb.cell (p := ⟨w.heap.size, 1, none⟩) (by simp)]; simp
    have HB := Lib.hid (((Below.refl _ w).alloc (Nat.le_refl _) _).trans (hb.mono (by simp)))
    have HA1 := Lib.hid (HA.out.below hb)
    clear hb
    have HL : Hid (∀ W, Below w1.heap.size w1 W → Calls Try.prog 76 #[.agg #[.int .i64 L, .slice A l.length c], .func (.func 77) #[] #[]] W fun e w' => ∃ A' c', e = .returned (.slice A' (way (-1) (gsOf L l)).length c') ∧ Below W.heap.size W w') :=
      fun W hb => (thatL_any L A c l W hn (HA1.out.below hb)).mono fun e w' ⟨A', c', he, _, hw⟩ => ⟨A', c', he, hw⟩
    have HR : Hid (∀ W, Below w1.heap.size w1 W → Calls Try.prog 76 #[.agg #[.int .i64 L, .slice A l.length c], .func (.func 78) #[] #[]] W fun e w' => ∃ A' c', e = .returned (.slice A' (way 1 (gsOf L l)).length c') ∧ Below W.heap.size W w') :=
      fun W hb => (thatR_any L A c l W hn (HA1.out.below hb)).mono fun e w' ⟨A', c', he, _, hw⟩ => ⟨A', c', he, hw⟩
    have HD : Hid (Below w1.heap.size w1 w1.drew) := (Below.refl _ _).drew
    go_wp2
    go_region_held3 (fun w' => w'.cell? ⟨w.heap.size, 0, none⟩ = some (.int .i64 L) ∧ w'.cell? ⟨w.heap.size, 1, none⟩ = some (.slice A l.length c))
      (first
        | go_keep
        | exact ⟨Below.cell_some hbx c0, Below.cell_some hbx c1⟩
        | exact ⟨Below.cell_some hby d0, Below.cell_some hby d1⟩)
      (first
        | (go_at_call 76; (with_reducible refine (HL.out w1.drew HD.out).mono ?_); rintro e w2 ⟨A2, k2, rfl, hbx0⟩; have hbx := below_drew hbx0; clear hbx0; have d0 := Below.cell_some hbx c0; have d1 := Below.cell_some hbx c1)
        | (go_at_call 76; (with_reducible refine (HR.out w1.drew HD.out).mono ?_); rintro e w2 ⟨A2, k2, rfl, hbx0⟩; have hbx := below_drew hbx0; clear hbx0; have d0 := Below.cell_some hbx c0; have d1 := Below.cell_some hbx c1)
        | (go_at_call 76; (with_reducible refine (HL.out _ hbx).mono ?_); rintro e w3 ⟨A3, k3, rfl, hby⟩)
        | (go_at_call 76; (with_reducible refine (HR.out _ hbx).mono ?_); rintro e w3 ⟨A3, k3, rfl, hby⟩))
    all_goals go_wp2
    all_goals go_ret3
    all_goals exact ⟨ret_iib HV.out.1.symm HV.out.2.symm rfl, (HB.out.trans (hbx.mono HB.out.size)).trans (hby.mono (by have := hbx.size; have := HB.out.size; omega))⟩

end Go.Proofs.Ytenpmjinbjlpbaa
