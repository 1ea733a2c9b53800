/- CountMeetings: the contracts of the program's and of the model's, and of roMeetings. -/
import Derived.Test.YtenpmjinbjlpbaaGood
import Derived.Test.YtenpmjinbjlpbaaGhosts
import Derived.Test.YtenpmjinbjlpbaaGoodF
namespace Go.Proofs.Ytenpmjinbjlpbaa
open Go.RowKit

def mStep (s : Int × Int) (y : Int) : Int × Int := if y = 1 then (s.1, s.2 + 1) else (s.1 + s.2, s.2)
def mAll (l : List (Int × Int)) : Int × Int := l.foldl (fun s p => mStep s p.2) (0, 0)
theorem mAll_snoc (l : List (Int × Int)) (k : Nat) (x : Int × Int) (hx : l[k]? = some x) : mAll (l.take (k + 1)) = mStep (mAll (l.take k)) x.2 := by
  obtain ⟨hk, rfl⟩ := List.getElem?_eq_some_iff.1 hx
  unfold mAll
  rw [List.take_succ_eq_append_getElem hk, List.foldl_append]
  rfl
theorem mAll_bounds (l : List (Int × Int)) : ∀ k, k ≤ l.length → k ≤ 16 → 0 ≤ (mAll (l.take k)).2 ∧ (mAll (l.take k)).2 ≤ k ∧ 0 ≤ (mAll (l.take k)).1 ∧ (mAll (l.take k)).1 ≤ 16 * k := by
  intro k
  induction k with
  | zero => intro _ _; simp [mAll]
  | succ k ih =>
    intro hk h16
    obtain ⟨h1, h2, h3, h4⟩ := ih (by omega) (by omega)
    rw [mAll_snoc l k _ (List.getElem?_eq_getElem hk)]
    unfold mStep
    split <;> refine ⟨?_, ?_, ?_, ?_⟩ <;> simp only <;> omega

/-- what CountMeetings returns -/
def cmV (L : Int) (l : List (Int × Int)) : Int := if goodB L l then (mAll l).1 else 0

theorem ret_ib {a b : Int} {x y : Bool} (h : a = b) (h' : x = y) : Ending.returned (.tuple #[.int .i64 a, .bool x]) = .returned (.tuple #[.int .i64 b, .bool y]) := by rw [h, h']

set_option maxHeartbeats 1000000 in
theorem roMeetings_good (L : Int) (A : Option Addr) (c : Nat) (l : List (Int × Int)) (w : World) (hg : goodB L l = true) (hA : AntsAt w A l) :
    Calls Try.prog 40 #[.agg #[.int .i64 L, .slice A l.length c]] w fun e w' => e = .returned (.int .i64 (mAll l).1) ∧ Below w.heap.size w w' := by
  have hn := good_len hg
  have HA := Lib.hid hA
  have HG := Lib.hid hg
  clear hA hg
  go_enter Try.func40, Try.ntmps40
  go_wp2
  go_loopw [3, 4, 10] (fun m r i wr => ∃ k : Nat, k ≤ l.length ∧ i = .int .i64 k ∧ m = .int .i64 (mAll (l.take k)).1 ∧ r = .int .i64 (mAll (l.take k)).2 ∧ Below (w.heap.size + 1) (w.alloc (Obj.cells #[Value.int IntKind.i64 L, Value.slice A l.length c] 47)) wr)
    (fun _ _ i _ => l.length - (intOf i).toNat)
  case atStart => exact ⟨0, Nat.zero_le _, rfl, rfl, rfl, Below.refl _ _⟩
  case round =>
    obtain ⟨k, hk, rfl, rfl, rfl, hb⟩ := hrel
    have HB := Lib.hid hb
    have hs1 : w.heap.size < wr.heap.size := by have := hb.size; simp at this; omega
    have HAr := Lib.hid (HA.out.below (((Below.refl _ _).alloc (Nat.le_refl _) _).trans (hb.mono (by simp))))
    clear hb
    by_cases hlt : k < l.length
    · obtain ⟨b, off, rfl, l0, hc⟩ := HAr.out.at_ hlt
      obtain ⟨a0, a1⟩ := hc k hlt
      have hx : l[k]? = some (l.getD k (0, 0)) := by rw [List.getD_eq_getElem?_getD, List.getElem?_eq_getElem hlt]; rfl
      have hm := mAll_snoc l k _ hx
      have hw := (good_ant HG.out hx).2.2.2
      obtain ⟨b1, b2, b3, b4⟩ := mAll_bounds l k hk (by omega)
      clear hc hx
      generalize l.getD k (0, 0) = x at *
      obtain ⟨x1, x2⟩ := x
      simp only at a0 a1 hm hw
      generalize mAll (l.take k) = s at *
      obtain ⟨m, r⟩ := s
      simp only at b1 b2 b3 b4 hm
      rcases hw with rfl | rfl
      · have HM : Hid (mAll (l.take (k + 1)) = (m + r, r)) := by show _ = _; rw [hm]; rfl
        clear hm
        go_wp2
        go_roundw
        case rel => exact ⟨k + 1, by omega, by go_num, by rw [HM.out], by rw [HM.out], HB.out.trans (((Below.refl _ _).alloc (Nat.le_refl _) _).mono (by omega))⟩
        case measure => simp [intOf]; omega
      · have HM : Hid (mAll (l.take (k + 1)) = (m, r + 1)) := by show _ = _; rw [hm]; rfl
        clear hm
        go_wp2
        go_roundw
        case rel => exact ⟨k + 1, by omega, by go_num, by rw [HM.out], by rw [HM.out], HB.out.trans (((Below.refl _ _).alloc (Nat.le_refl _) _).mono (by omega))⟩
        case measure => simp [intOf]; omega
    · obtain rfl : k = l.length := by omega
      have HE : Hid (l.take l.length = l) := List.take_length
      go_wp2
      go_ret
      exact ⟨ret_int (by rw [HE.out]), ((Below.refl _ _).alloc (Nat.le_refl _) _).trans (HB.out.mono (by simp))⟩

end Go.Proofs.Ytenpmjinbjlpbaa
