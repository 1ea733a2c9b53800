/- The laws' copy of a slice of integers. -/
import Derived.Test.YtenpmjinbjlpbaaDoorMark
namespace Go.Proofs.YtenpmjinbjlpbaaDoor
open Go.RowKit

theorem take_repI (l : List Int) (k : Nat) (hk : k < l.length) (x : Int) (hx : l[k]? = some x) : (l.take k ++ List.replicate (l.length - k) (0 : Int)).set k x = l.take (k + 1) ++ List.replicate (l.length - (k + 1)) 0 := by
  obtain ⟨_, rfl⟩ := List.getElem?_eq_some_iff.1 hx
  rw [List.set_append_right _ _ (by rw [List.length_take]; omega), List.length_take, Nat.min_eq_left (by omega), Nat.sub_self,
    show l.length - k = (l.length - (k + 1)) + 1 by omega, List.replicate_succ, List.set_cons_zero, List.take_succ_eq_append_getElem hk, List.append_assoc]
  simp
theorem madeInts (n : Nat) : (madeCells #[.int .i64 0] (n * 1)).toList = intS.row (List.replicate n 0) := by
  induction n with
  | zero => simp [madeCells, Shape.row]
  | succ n ih =>
    rw [List.replicate_succ', Shape.row_append, ← ih]
    apply List.ext_getElem?
    intro j
    simp only [madeCells, Nat.mul_one, Array.toList_map, Array.toList_range, List.getElem?_map]
    rcases Nat.lt_trichotomy j n with h | h | h
    · rw [List.getElem?_append_left (by simpa using h)]
      simp [h, show j < n + 1 by omega]
    · subst h
      rw [List.getElem?_append_right (by simp)]
      simp [Shape.row, intS, Nat.mod_one]
    · rw [List.getElem?_append_right (by simp; omega)]
      simp [Shape.row, intS, show ¬ j < n + 1 by omega]
      omega
theorem intInfoH : (Tryd.prog.info? 3).map (fun i => (i.zero, i.size, i.bytes)) = some (some (.int .i64 0), 1, 8) := by kernel_rfl

set_option maxHeartbeats 1000000 in
theorem toIntS_any (A : Option Addr) (c : Nat) (l : List Int) (w : World) (hn : (l.length : Int) ≤ 1048576) (hA : SlAt intS w A l) :
    Calls Tryd.prog 38 #[.slice A l.length c] w fun e w' => ∃ A' c', e = .returned (.slice A' l.length c') ∧ SlOwn intS w' w.heap.size 3 (.slice A' l.length c') l ∧ Below w.heap.size w w' := by
  obtain ⟨i0, hi, hz0, hz1, hz2⟩ := info_parts intInfoH
  have HA := Lib.hid hA
  clear hA
  go_enter Tryd.func38, Tryd.ntmps38
  go_wp2_with (at_make; refine wpList_make_full _ rfl _ _ _ rfl w.heap.size 3 i0 _ 1 Tryd.underlying40 hi hz0 hz1 .i64 .i64 _ _ l.length rfl rfl rfl rfl (by rw [hz2]; omega) (by unfold maxLen; omega) (Nat.le_refl _) ?_; intro w1 hown hg)
  have HB1 := Lib.hid ((Below.refl w.heap.size w).grown hg (Nat.le_refl _) (by simp))
  clear hg
  have HO1 : Hid (SlOwn intS w1 w.heap.size 3 (.slice (some ⟨w.heap.size, 0, none⟩) l.length l.length) (l.take 0 ++ List.replicate (l.length - 0) 0)) := by
    have e := madeInts l.length
    show World.ownsRow _ _ _ _ _ _ _
    simp only [List.take_zero, List.nil_append, Nat.sub_zero, List.length_replicate]
    rw [← e]
    exact hown
  clear hown
  clear hi hz0 hz1 hz2
  go_loopw [4] (fun i wr => ∃ k : Nat, k ≤ l.length ∧ i = .int .i64 k ∧ Below w.heap.size w wr ∧ SlOwn intS wr w.heap.size 3 (.slice (some ⟨w.heap.size, 0, none⟩) l.length l.length) (l.take k ++ List.replicate (l.length - k) 0))
    (fun i _ => l.length - (intOf i).toNat)
  case atStart => exact ⟨0, Nat.zero_le _, rfl, HB1.out, HO1.out⟩
  case round =>
    obtain ⟨k, hk, rfl, hb, hown⟩ := hrel
    have HB := Lib.hid hb
    have HO := Lib.hid hown
    have HAr := Lib.hid (HA.out.below hb)
    clear hb hown
    by_cases hlt : k < l.length
    · obtain ⟨b, off, rfl, l0, hc⟩ := HAr.out.int_at hlt
      have a0 := hc k _ (List.getElem?_eq_getElem hlt)
      have hx := take_repI l k hlt _ (List.getElem?_eq_getElem hlt)
      clear hc
      generalize l[k]'hlt = x at *
      have HX := Lib.hid hx
      clear hx
      have hst := HO.out.int_store (j := k) (by simp; omega) x
      obtain ⟨v0, c0, g0, hrow, hgrow⟩ := hst
      have HR := Lib.hid hrow
      have HG := Lib.hid hgrow
      clear hrow hgrow
      go_wp2
      go_roundw
      case rel =>
        refine ⟨k + 1, by omega, by go_num, ?_, ?_⟩
        · exact HB.out.grown HG.out (by have := HB.out.size; omega) (by simp)
        · rw [← HX.out]; exact HR.out
      case measure => simp [intOf]; omega
    · obtain rfl : k = l.length := by omega
      go_wp2
      go_ret
      exact ⟨_, _, rfl, by simpa using HO.out, HB.out⟩
end Go.Proofs.YtenpmjinbjlpbaaDoor
