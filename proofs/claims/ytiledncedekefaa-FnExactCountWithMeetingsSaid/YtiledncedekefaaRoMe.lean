/- The contract of roMeetings, for a seat that has not CountMeetings (else XCount has it). -/
import Derived.Test.YtiledncedekefaaCount
namespace Go.Proofs.Ytiledncedekefaa
open Go.RowKit

set_option maxHeartbeats 1000000 in
theorem roMeetings_good (L : Int) (A : Option Addr) (c : Nat) (l : List (Int × Int)) (w : World) (hg : goodB L l = true) (hA : AntsAt w A l) :
    Calls Try.prog 85 #[.agg #[.int .i64 L, .slice A l.length c]] w fun e w' => e = .returned (.int .i64 (mAll l).1) ∧ Below w.heap.size w w' := by
  have hn := good_len hg
  have HA := Lib.hid hA
  have HG := Lib.hid hg
  clear hA hg
  go_enter Try.func85, Try.ntmps85
  go_wp2
  go_loopw [3, 4, 10] (fun m r i wr => ∃ k : Nat, k ≤ l.length ∧ i = .int .i64 k ∧ m = .int .i64 (mAll (l.take k)).1 ∧ r = .int .i64 (mAll (l.take k)).2 ∧ Below (w.heap.size + 1) (w.alloc (Obj.cells #[Value.int IntKind.i64 L, Value.slice A l.length c] 28)) wr)
    (fun _ _ i _ => l.length - (intOf i).toNat)
  case atStart => exact ⟨0, Nat.zero_le _, rfl, rfl, rfl, Below.refl _ _⟩
  case round =>
    obtain ⟨k, hk, rfl, rfl, rfl, hb⟩ := hrel
    have HB := Lib.hid hb
    have hs1 : w.heap.size < wr.heap.size := by have := hb.size; simp at this; omega
    have HAr := Lib.hid (HA.out.below (((Below.refl _ _).alloc (Nat.le_refl _) _).trans (hb.mono (by simp))))
    clear hb
    by_cases hlt : k < l.length
    · obtain ⟨b, off, rfl, l0, hc⟩ := HAr.out.at_ hlt
      obtain ⟨a0, a1⟩ := hc k hlt
      have hx : l[k]? = some (l.getD k (0, 0)) := by rw [List.getD_eq_getElem?_getD, List.getElem?_eq_getElem hlt]; rfl
      have hm := mAll_snoc l k _ hx
      have hw := (good_ant HG.out hx).2.2.2
      obtain ⟨b1, b2, b3, b4⟩ := mAll_bounds l k hk (by omega)
      clear hc hx
      generalize l.getD k (0, 0) = x at *
      obtain ⟨x1, x2⟩ := x
      simp only at a0 a1 hm hw
      generalize mAll (l.take k) = s at *
      obtain ⟨m, r⟩ := s
      simp only at b1 b2 b3 b4 hm
      rcases hw with rfl | rfl
      · have HM : Hid (mAll (l.take (k + 1)) = (m + r, r)) := by show _ = _; rw [hm]; rfl
        clear hm
        go_wp2
        go_roundw
        case rel => exact ⟨k + 1, by omega, by go_num, by rw [HM.out], by rw [HM.out], HB.out.trans (((Below.refl _ _).alloc (Nat.le_refl _) _).mono (by omega))⟩
        case measure => simp [intOf]; omega
      · have HM : Hid (mAll (l.take (k + 1)) = (m, r + 1)) := by show _ = _; rw [hm]; rfl
        clear hm
        go_wp2
        go_roundw
        case rel => exact ⟨k + 1, by omega, by go_num, by rw [HM.out], by rw [HM.out], HB.out.trans (((Below.refl _ _).alloc (Nat.le_refl _) _).mono (by omega))⟩
        case measure => simp [intOf]; omega
    · obtain rfl : k = l.length := by omega
      have HE : Hid (l.take l.length = l) := List.take_length
      go_wp2
      go_ret
      exact ⟨ret_int (by rw [HE.out]), ((Below.refl _ _).alloc (Nat.le_refl _) _).trans (HB.out.mono (by simp))⟩
end Go.Proofs.Ytiledncedekefaa
