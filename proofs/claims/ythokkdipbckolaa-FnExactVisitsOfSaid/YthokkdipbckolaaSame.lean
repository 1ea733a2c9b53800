/- Whether two rows of ants are the same: the model's test, and slices.Equal. -/
import Derived.Test.YthokkdipbckolaaRun
import Derived.Test.YthokkdipbckolaaProg
import Derived.Test.YthokkdipbckolaaSl
import Derived.Deep.RegionHeld3
import Derived.Laws.StructEq
import Derived.ChangeKeysEq
namespace Go.Proofs.Ythokkdipbckolaa
open Go.RowKit

theorem antIn_eq (d : Nat) (x1 x2 y1 y2 : Int) (w : World) : (Op.equalIn (d + 2) 53 (.agg #[.int .i64 x1, .int .i64 x2]) (.agg #[.int .i64 y1, .int .i64 y2])).run Try.prog w = .ok (decide ((x1, x2) = (y1, y2))) w := by
  rw [run_equalIn_struct w (d + 1) 53 _ _ (by kernel_rfl) (by kernel_rfl)]
  simp [Program.fieldsOf, Try.underlying53, Op.eqFields, go_sem]
  split
  · rename_i h
    split
    · rename_i h2; simp [h, h2]
    · rename_i h2; simp [h2]
  · rename_i h; simp [h]
theorem antNeq (x y : Int × Int) (r : Bool) (hr : decide (x = y) = r) (w : World) :
    (binOp .neq 53 (.agg #[.int .i64 x.1, .int .i64 x.2]) (.agg #[.int .i64 y.1, .int .i64 y.2])).run Try.prog w = .ok (.bool (!r)) w := by
  rw [run_neq_struct, antIn_eq 9998, hr]
  rfl

set_option maxRecDepth 100000 in
set_option maxHeartbeats 1000000 in
theorem ciSame_any (A B : Option Addr) (c d n : Nat) (l m : List (Int × Int)) (w : World) (hl : l.length = n) (hm : m.length = n) (hn : n ≤ 16) (hA : AntsAt w A l) (hB : AntsAt w B m) :
    Calls Try.prog 57 #[.slice A n c, .slice B n d] w fun e w' => e = .returned (.bool (decide (l = m))) ∧ Below w.heap.size w w' := by
  have HA := Lib.hid hA
  have HB := Lib.hid hB
  have HL := Lib.hid hl
  have HM := Lib.hid hm
  clear hA hB hl hm
  go_enter Try.func57, Try.ntmps57
  go_wp2
  go_loopw [5, 8] (fun _ i wr => ∃ k : Nat, k ≤ n ∧ i = .int .i64 k ∧ Below w.heap.size w wr ∧ ∀ j, j < k → l.getD j (0, 0) = m.getD j (0, 0))
    (fun _ i _ => n - (intOf i).toNat)
  case atStart => exact ⟨0, Nat.zero_le _, rfl, Below.refl _ _, fun j hj => absurd hj (by omega)⟩
  case round =>
    obtain ⟨k, hk, rfl, hb, hall⟩ := hrel
    have HBr := Lib.hid hb
    have HAL := Lib.hid hall
    have HAr := Lib.hid (HA.out.below hb)
    have HBB := Lib.hid (HB.out.below hb)
    clear hall hb
    by_cases hlt : k < n
    · have hkl : k < l.length := by rw [HL.out]; exact hlt
      have hkm : k < m.length := by rw [HM.out]; exact hlt
      obtain ⟨b, off, rfl, l0, hc⟩ := HAr.out.at_ hkl
      obtain ⟨b2, off2, rfl, l2, hc2⟩ := HBB.out.at_ hkm
      obtain ⟨a0, a1⟩ := hc k hkl
      obtain ⟨p0, p1⟩ := hc2 k hkm
      have HNE : Hid (l.getD k (0, 0) = m.getD k (0, 0) → ∀ j, j < k + 1 → l.getD j (0, 0) = m.getD j (0, 0)) := fun h j hj => by
        by_cases hjk : j < k
        · exact HAL.out j hjk
        · obtain rfl : j = k := by omega
          exact h
      have HDF : Hid (¬ l.getD k (0, 0) = m.getD k (0, 0) → decide (l = m) = false) := fun h => decide_eq_false fun e => h (by rw [e])
      clear hc hc2
      generalize l.getD k (0, 0) = x at *
      generalize m.getD k (0, 0) = y at *
      have hki : (k : Int) < (n : Int) := by omega
      have hk0 : (0 : Int) ≤ (k : Int) := by omega
      have d0 : wr.drew.cell? ⟨b, off + k * 2, none⟩ = some (.int .i64 x.1) := a0
      have d1 : wr.drew.cell? ⟨b, off + k * 2 + 1, none⟩ = some (.int .i64 x.2) := a1
      have d2 : wr.drew.cell? ⟨b2, off2 + k * 2, none⟩ = some (.int .i64 y.1) := p0
      have d3 : wr.drew.cell? ⟨b2, off2 + k * 2 + 1, none⟩ = some (.int .i64 y.2) := p1
      by_cases hxy : x = y
      · have hneq := fun w => antNeq x y true (decide_eq_true hxy) w
        have HXY := Lib.hid (HNE.out hxy)
        clear hxy HNE HDF
        go_wp2
        go_region_held3 (fun w' => w'.cell? ⟨b, off + k * 2, none⟩ = some (.int .i64 x.1) ∧ w'.cell? ⟨b, off + k * 2 + 1, none⟩ = some (.int .i64 x.2) ∧ w'.cell? ⟨b2, off2 + k * 2, none⟩ = some (.int .i64 y.1) ∧ w'.cell? ⟨b2, off2 + k * 2 + 1, none⟩ = some (.int .i64 y.2))
          (first | exact ⟨d0, d1, d2, d3⟩ | go_keep)
          (first | fail)
        all_goals (
          go_wp2
          go_roundw
          case rel => exact ⟨k + 1, by omega, by go_num, HBr.out.drew, HXY.out⟩
          case measure => (simp [intOf]; omega))
      · have hneq := fun w => antNeq x y false (decide_eq_false hxy) w
        have HV := Lib.hid (HDF.out hxy)
        clear hxy HNE HDF
        go_wp2
        go_region_held3 (fun w' => w'.cell? ⟨b, off + k * 2, none⟩ = some (.int .i64 x.1) ∧ w'.cell? ⟨b, off + k * 2 + 1, none⟩ = some (.int .i64 x.2) ∧ w'.cell? ⟨b2, off2 + k * 2, none⟩ = some (.int .i64 y.1) ∧ w'.cell? ⟨b2, off2 + k * 2 + 1, none⟩ = some (.int .i64 y.2))
          (first | exact ⟨d0, d1, d2, d3⟩ | go_keep)
          (first | fail)
        all_goals (
          go_wp2
          go_ret
          exact ⟨ret_bool HV.out.symm, HBr.out.drew⟩)
    · obtain rfl : k = n := by omega
      have HV : Hid (decide (l = m) = true) := by
        show _ = _
        refine decide_eq_true (List.ext_getElem (by rw [HL.out, HM.out]) fun i h1 h2 => ?_)
        have := HAL.out i (by rw [← HL.out]; exact h1)
        rwa [getD_lt' h1, getD_lt' h2] at this
      go_wp2
      go_ret
      exact ⟨ret_bool HV.out.symm, HBr.out⟩

set_option maxRecDepth 100000 in
set_option maxHeartbeats 1000000 in
theorem slicesEqual_any (A B : Option Addr) (c d n : Nat) (l m : List (Int × Int)) (w : World) (hl : l.length = n) (hm : m.length = n) (hn : n ≤ 16) (hA : AntsAt w A l) (hB : AntsAt w B m) :
    Calls Try.prog 58 #[.slice A n c, .slice B n d] w fun e w' => e = .returned (.bool (decide (l = m))) ∧ Below w.heap.size w w' := by
  have HA := Lib.hid hA
  have HB := Lib.hid hB
  have HL := Lib.hid hl
  have HM := Lib.hid hm
  clear hA hB hl hm
  have hnn : ((n : Int) != (n : Int)) = false := by simp
  go_enter Try.func58, Try.ntmps58
  go_wp2
  go_loopw [5, 13] (fun _ i wr => ∃ k : Nat, k ≤ n ∧ i = .int .i64 k ∧ Below w.heap.size w wr ∧ ∀ j, j < k → l.getD j (0, 0) = m.getD j (0, 0))
    (fun _ i _ => n - (intOf i).toNat)
  case atStart => exact ⟨0, Nat.zero_le _, rfl, Below.refl _ _, fun j hj => absurd hj (by omega)⟩
  case round =>
    obtain ⟨k, hk, rfl, hb, hall⟩ := hrel
    have HBr := Lib.hid hb
    have HAL := Lib.hid hall
    have HAr := Lib.hid (HA.out.below hb)
    have HBB := Lib.hid (HB.out.below hb)
    clear hall hb
    by_cases hlt : k < n
    · have hkl : k < l.length := by rw [HL.out]; exact hlt
      have hkm : k < m.length := by rw [HM.out]; exact hlt
      obtain ⟨b, off, rfl, l0, hc⟩ := HAr.out.at_ hkl
      obtain ⟨b2, off2, rfl, l2, hc2⟩ := HBB.out.at_ hkm
      obtain ⟨a0, a1⟩ := hc k hkl
      obtain ⟨p0, p1⟩ := hc2 k hkm
      have HNE : Hid (l.getD k (0, 0) = m.getD k (0, 0) → ∀ j, j < k + 1 → l.getD j (0, 0) = m.getD j (0, 0)) := fun h j hj => by
        by_cases hjk : j < k
        · exact HAL.out j hjk
        · obtain rfl : j = k := by omega
          exact h
      have HDF : Hid (¬ l.getD k (0, 0) = m.getD k (0, 0) → decide (l = m) = false) := fun h => decide_eq_false fun e => h (by rw [e])
      clear hc hc2
      generalize l.getD k (0, 0) = x at *
      generalize m.getD k (0, 0) = y at *
      have hki : (k : Int) < (n : Int) := by omega
      have hk0 : (0 : Int) ≤ (k : Int) := by omega
      have d0 : wr.drew.cell? ⟨b, off + k * 2, none⟩ = some (.int .i64 x.1) := a0
      have d1 : wr.drew.cell? ⟨b, off + k * 2 + 1, none⟩ = some (.int .i64 x.2) := a1
      have d2 : wr.drew.cell? ⟨b2, off2 + k * 2, none⟩ = some (.int .i64 y.1) := p0
      have d3 : wr.drew.cell? ⟨b2, off2 + k * 2 + 1, none⟩ = some (.int .i64 y.2) := p1
      by_cases hxy : x = y
      · have hneq := fun w => antNeq x y true (decide_eq_true hxy) w
        have HXY := Lib.hid (HNE.out hxy)
        clear hxy HNE HDF
        go_wp2
        go_region_held3 (fun w' => w'.cell? ⟨b, off + k * 2, none⟩ = some (.int .i64 x.1) ∧ w'.cell? ⟨b, off + k * 2 + 1, none⟩ = some (.int .i64 x.2) ∧ w'.cell? ⟨b2, off2 + k * 2, none⟩ = some (.int .i64 y.1) ∧ w'.cell? ⟨b2, off2 + k * 2 + 1, none⟩ = some (.int .i64 y.2))
          (first | exact ⟨d0, d1, d2, d3⟩ | go_keep)
          (first | fail)
        all_goals (
          go_wp2
          go_roundw
          case rel => exact ⟨k + 1, by omega, by go_num, HBr.out.drew, HXY.out⟩
          case measure => (simp [intOf]; omega))
      · have hneq := fun w => antNeq x y false (decide_eq_false hxy) w
        have HV := Lib.hid (HDF.out hxy)
        clear hxy HNE HDF
        go_wp2
        go_region_held3 (fun w' => w'.cell? ⟨b, off + k * 2, none⟩ = some (.int .i64 x.1) ∧ w'.cell? ⟨b, off + k * 2 + 1, none⟩ = some (.int .i64 x.2) ∧ w'.cell? ⟨b2, off2 + k * 2, none⟩ = some (.int .i64 y.1) ∧ w'.cell? ⟨b2, off2 + k * 2 + 1, none⟩ = some (.int .i64 y.2))
          (first | exact ⟨d0, d1, d2, d3⟩ | go_keep)
          (first | fail)
        all_goals (
          go_wp2
          go_ret
          exact ⟨ret_bool HV.out.symm, HBr.out.drew⟩)
    · obtain rfl : k = n := by omega
      have HV : Hid (decide (l = m) = true) := by
        show _ = _
        refine decide_eq_true (List.ext_getElem (by rw [HL.out, HM.out]) fun i h1 h2 => ?_)
        have := HAL.out i (by rw [← HL.out]; exact h1)
        rwa [getD_lt' h1, getD_lt' h2] at this
      go_wp2
      go_ret
      exact ⟨ret_bool HV.out.symm, HBr.out⟩

end Go.Proofs.Ythokkdipbckolaa
