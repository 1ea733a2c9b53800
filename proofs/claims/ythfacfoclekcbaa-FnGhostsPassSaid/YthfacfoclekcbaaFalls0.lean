/- CountFalls: the contracts of the program's and of the model's, and of roLeft. -/
import Derived.Test.YthfacfoclekcbaaThat
import Derived.Deep.RegionHeld3
namespace Go.Proofs.Ythfacfoclekcbaa
open Go.RowKit

/-- how many go to the left -/
def nL (L : Int) (l : List (Int × Int)) : Nat := (way (-1) (gsOf L l)).length
theorem gsOf_len (L : Int) (l : List (Int × Int)) : (gsOf L l).length = l.length := by simp [gsOf]
theorem gsOf_nil (L : Int) : gsOf L [] = [] := rfl
theorem nL_le (L : Int) (l : List (Int × Int)) : nL L l ≤ l.length := by
  have := way_len (-1) (gsOf L l)
  rw [gsOf_len] at this
  exact this
theorem nL_snoc_yes (L : Int) (l : List (Int × Int)) (k : Nat) (a : Int) (hx : l[k]? = some (a, -1)) : nL L (l.take (k + 1)) = nL L (l.take k) + 1 := by
  unfold nL
  rw [gsOf_take L l k _ hx, way_snoc_yes _ _ _ rfl, List.length_append]
  rfl
theorem nL_snoc_no (L : Int) (l : List (Int × Int)) (k : Nat) (a : Int) (hx : l[k]? = some (a, 1)) : nL L (l.take (k + 1)) = nL L (l.take k) := by
  unfold nL
  rw [gsOf_take L l k _ hx, way_snoc_no _ _ _ rfl]
theorem ways_sum {L : Int} {l : List (Int × Int)} (hg : goodB L l = true) : (way 1 (gsOf L l)).length + nL L l = l.length := by
  have key : ∀ k, k ≤ l.length → (way 1 (gsOf L (l.take k))).length + nL L (l.take k) = k := by
    intro k
    induction k with
    | zero => intro _; simp [gsOf_nil, way, nL]
    | succ k ih =>
      intro hk
      have hx : l[k]? = some (l[k]'hk) := List.getElem?_eq_getElem hk
      have hw := (good_ant hg hx).2.2.2
      have hi := ih (by omega)
      generalize l[k]'hk = x at *
      obtain ⟨a, y⟩ := x
      simp only at hw
      rcases hw with rfl | rfl
      · rw [nL_snoc_yes L l k a hx, gsOf_take L l k _ hx, way_snoc_no _ _ _ rfl]; omega
      · rw [nL_snoc_no L l k a hx, gsOf_take L l k _ hx, way_snoc_yes _ _ _ rfl, List.length_append]; simp; omega
  have := key l.length (Nat.le_refl _)
  rwa [List.take_length] at this

set_option maxHeartbeats 1000000 in
theorem roLeft_good (L : Int) (A : Option Addr) (c : Nat) (l : List (Int × Int)) (w : World) (hg : goodB L l = true) (hA : AntsAt w A l) :
    Calls Try.prog 60 #[.agg #[.int .i64 L, .slice A l.length c]] w fun e w' => e = .returned (.int .i64 (nL L l : Int)) ∧ Below w.heap.size w w' := by
  have hn := good_len hg
  have HA := Lib.hid hA
  have HG := Lib.hid hg
  clear hA hg
  go_enter Try.func60, Try.ntmps60
  go_wp2
  go_loopw [3, 9] (fun m i wr => ∃ k : Nat, k ≤ l.length ∧ i = .int .i64 k ∧ m = .int .i64 (nL L (l.take k) : Int) ∧ Below (w.heap.size + 1) (w.alloc (Obj.cells #[Value.int IntKind.i64 L, Value.slice A l.length c] 26)) wr)
    (fun _ i _ => l.length - (intOf i).toNat)
  case atStart => exact ⟨0, Nat.zero_le _, rfl, by simp [nL, gsOf_nil, way], Below.refl _ _⟩
  case round =>
    obtain ⟨k, hk, rfl, rfl, hb⟩ := hrel
    have HB := Lib.hid hb
    have hs1 : w.heap.size < wr.heap.size := by have := hb.size; simp at this; omega
    have HAr := Lib.hid (HA.out.below (((Below.refl _ _).alloc (Nat.le_refl _) _).trans (hb.mono (by simp))))
    clear hb
    by_cases hlt : k < l.length
    · obtain ⟨b, off, rfl, l0, hc⟩ := HAr.out.at_ hlt
      obtain ⟨a0, a1⟩ := hc k hlt
      have hx : l[k]? = some (l.getD k (0, 0)) := by rw [List.getD_eq_getElem?_getD, List.getElem?_eq_getElem hlt]; rfl
      have hw := (good_ant HG.out hx).2.2.2
      have hle : nL L (l.take k) ≤ 16 := by have := nL_le L (l.take k); have h2 : (l.take k).length ≤ k := List.length_take_le _ _; omega
      clear hc
      generalize l.getD k (0, 0) = x at *
      obtain ⟨x1, x2⟩ := x
      simp only at a0 a1 hw
      rcases hw with rfl | rfl
      · have HM := Lib.hid (nL_snoc_yes L l k x1 hx)
        clear hx
        generalize nL L (l.take k) = m at *
        go_wp2
        go_roundw
        case rel => exact ⟨k + 1, by omega, by go_num, by rw [HM.out]; go_num, HB.out.trans (((Below.refl _ _).alloc (Nat.le_refl _) _).mono (by omega))⟩
        case measure => simp [intOf]; omega
      · have HM := Lib.hid (nL_snoc_no L l k x1 hx)
        clear hx
        generalize nL L (l.take k) = m at *
        go_wp2
        go_roundw
        case rel => exact ⟨k + 1, by omega, by go_num, by rw [HM.out], HB.out.trans (((Below.refl _ _).alloc (Nat.le_refl _) _).mono (by omega))⟩
        case measure => simp [intOf]; omega
    · obtain rfl : k = l.length := by omega
      have HE : Hid (l.take l.length = l) := List.take_length
      go_wp2
      go_ret
      exact ⟨ret_int (by rw [HE.out]), ((Below.refl _ _).alloc (Nat.le_refl _) _).trans (HB.out.mono (by simp))⟩

/-- what CountFalls returns -/
def cfL (L : Int) (l : List (Int × Int)) : Int := if goodB L l then (nL L l : Int) else 0
def cfR (L : Int) (l : List (Int × Int)) : Int := if goodB L l then (l.length : Int) - (nL L l : Int) else 0

theorem ret_iib {a b c d : Int} {x y : Bool} (h : a = b) (h2 : c = d) (h' : x = y) : Ending.returned (.tuple #[.int .i64 a, .int .i64 c, .bool x]) = .returned (.tuple #[.int .i64 b, .int .i64 d, .bool y]) := by rw [h, h2, h']



end Go.Proofs.Ythfacfoclekcbaa
