/- The drawn laws' own helpers at rods: big, gSame, gRod, gAbs. -/
import Derived.Test.YthfacfoclekcbaaProg
import Derived.Test.YthfacfoclekcbaaBase
import Derived.Test.YthfacfoclekcbaaSl
namespace Go.Proofs.Ythfacfoclekcbaa
open Go.RowKit

def bigB (n m : Nat) : Bool := decide ((1048576 : Int) < n) || decide ((1048576 : Int) - n < m)
set_option maxHeartbeats 1000000 in
theorem big_any (A B : Option Addr) (n m c d : Nat) (w : World) (hn : (n : Int) ≤ 9223372036854775807) :
    Calls Try.prog 4 #[.slice A n c, .slice B m d] w fun e w' => e = .returned (.bool (bigB n m)) ∧ w' = w := by
  by_cases h : (1048576 : Int) < n
  · have HV : Hid (bigB n m = true) := Lib.hid (by unfold bigB; rw [decide_eq_true h]; rfl)
    go_enter Try.func4, Try.ntmps4
    go_wp2
    go_ret
    exact ⟨ret_bool HV.out.symm, rfl⟩
  · have HV : Hid (bigB n m = decide ((1048576 : Int) - n < m)) := Lib.hid (by unfold bigB; rw [decide_eq_false h]; rfl)
    go_enter Try.func4, Try.ntmps4
    go_wp2
    go_ret
    exact ⟨ret_bool (by rw [HV.out]), rfl⟩
set_option maxHeartbeats 1000000 in
theorem gSame_true (A B : Option Addr) (c d : Nat) (l : List Int) (w : World) (hn : (l.length : Int) ≤ 1048576) (hA : SlAt intS w A l) (hB : SlAt intS w B l) :
    Calls Try.prog 13 #[.slice A l.length c, .slice B l.length d] w fun e w' => e = .returned (.bool true) ∧ Below w.heap.size w w' := by
  have HA := Lib.hid hA
  have HB := Lib.hid hB
  clear hA hB
  go_enter Try.func13, Try.ntmps13
  go_wp2
  go_loopw [5, 13] (fun _ i wr => ∃ k : Nat, k ≤ l.length ∧ i = .int .i64 k ∧ Below w.heap.size w wr)
    (fun _ i _ => l.length - (intOf i).toNat)
  case atStart => exact ⟨0, Nat.zero_le _, rfl, Below.refl _ _⟩
  case round =>
    obtain ⟨k, hk, rfl, hb⟩ := hrel
    have HBe := Lib.hid hb
    have HAr := Lib.hid (HA.out.below hb)
    have HBr := Lib.hid (HB.out.below hb)
    clear hb
    by_cases hlt : k < l.length
    · obtain ⟨b, off, rfl, l0, hc⟩ := HAr.out.int_at hlt
      obtain ⟨b', off', rfl, l0', hc'⟩ := HBr.out.int_at hlt
      have a0 := hc k _ (List.getElem?_eq_getElem hlt)
      have b0 := hc' k _ (List.getElem?_eq_getElem hlt)
      clear hc hc'
      generalize l[k]'hlt = x at *
      have f0 := Ext.cell a0
      have f1 := Ext.cell b0
      clear a0 b0
      go_wp2
      refine wp_region_ext (by kernel_rfl) (by kernel_rfl) ?_
      repeat (first | go_big_quiet_skip | (go_big_quiet_want; go_big_quiet_op; go_big_quiet_on))
      refine wpQuiet_nil ?_
      rintro _ ⟨x, rfl⟩
      go_wp2
      go_roundw
      case rel => exact ⟨k + 1, by omega, by go_num, HBe.out.trans (x.h.mono HBe.out.size)⟩
      case measure => simp [intOf]; omega
    · go_wp2
      go_ret
      exact ⟨ret_bool rfl, HBe.out⟩
set_option maxHeartbeats 1000000 in
theorem gRod_true (L : Int) (A B : Option Addr) (c d : Nat) (l : List (Int × Int)) (w : World) (hn : (l.length : Int) ≤ 1048576) (hA : AntsAt w A l) (hB : AntsAt w B l) :
    Calls Try.prog 12 #[.agg #[.int .i64 L, .slice A l.length c], .agg #[.int .i64 L, .slice B l.length d]] w fun e w' => e = .returned (.bool true) ∧ Below w.heap.size w w' := by
  have HA := Lib.hid ((hA.alloc (Obj.cells #[Value.int IntKind.i64 L, Value.slice A l.length c] 26)).alloc (Obj.cells #[Value.int IntKind.i64 L, Value.slice B l.length d] 26))
  have HB := Lib.hid ((hB.alloc (Obj.cells #[Value.int IntKind.i64 L, Value.slice A l.length c] 26)).alloc (Obj.cells #[Value.int IntKind.i64 L, Value.slice B l.length d] 26))
  clear hA hB
  go_enter Try.func12, Try.ntmps12
  go_wp2
  obtain ⟨W, hW⟩ : ∃ W, (w.alloc (Obj.cells #[Value.int IntKind.i64 L, Value.slice A l.length c] 26)).alloc (Obj.cells #[Value.int IntKind.i64 L, Value.slice B l.length d] 26) = W := ⟨_, rfl⟩
  have a0 : W.cell? ⟨w.heap.size, 0, none⟩ = some (.int .i64 L) := by rw [← hW]; exact alloc_some (by simp) _
  have a1 : W.cell? ⟨w.heap.size, 1, none⟩ = some (.slice A l.length c) := by rw [← hW]; exact alloc_some (by simp) _
  have b0 : W.cell? ⟨w.heap.size + 1, 0, none⟩ = some (.int .i64 L) := by rw [← hW]; simp [go_sem]
  have b1 : W.cell? ⟨w.heap.size + 1, 1, none⟩ = some (.slice B l.length d) := by rw [← hW]; simp [go_sem]
  have HBW : Hid (Below w.heap.size w W) := Lib.hid (by rw [← hW]; exact ((Below.refl _ _).alloc (Nat.le_refl _) _).alloc (by simp) _)
  rw [hW] at HA HB
  rw [hW]
  clear hW
  go_loopw [5, 23] (fun _ i wr => ∃ k : Nat, k ≤ l.length ∧ i = .int .i64 k ∧ Below W.heap.size W wr)
    (fun _ i _ => l.length - (intOf i).toNat)
  case atStart => exact ⟨0, Nat.zero_le _, rfl, Below.refl _ _⟩
  case round =>
    obtain ⟨k, hk, rfl, hb⟩ := hrel
    have HBe := Lib.hid (HBW.out.trans (hb.mono HBW.out.size))
    have HBK := Lib.hid hb
    have HAr := Lib.hid (HA.out.below hb)
    have HBr := Lib.hid (HB.out.below hb)
    have a0 := Below.cell_some hb a0
    have a1 := Below.cell_some hb a1
    have b0 := Below.cell_some hb b0
    have b1 := Below.cell_some hb b1
    clear hb
    by_cases hlt : k < l.length
    · obtain ⟨b, off, rfl, l0, hc⟩ := HAr.out.at_ hlt
      obtain ⟨b', off', rfl, l0', hc'⟩ := HBr.out.at_ hlt
      obtain ⟨x0, x1⟩ := hc k hlt
      obtain ⟨y0, y1⟩ := hc' k hlt
      clear hc hc'
      generalize l.getD k (0, 0) = x at *
      obtain ⟨p, q⟩ := x
      simp only at x0 x1 y0 y1
      have f0 := Ext.cell a1
      have f1 := Ext.cell b1
      have f2 := Ext.cell x0
      have f3 := Ext.cell x1
      have f4 := Ext.cell y0
      have f5 := Ext.cell y1
      clear a0 a1 b0 b1 x0 x1 y0 y1
      go_wp2
      refine wp_region_ext (by kernel_rfl) (by kernel_rfl) ?_
      repeat (first | go_big_quiet_skip | (go_big_quiet_want; go_big_quiet_op; go_big_quiet_on))
      refine wpQuiet_nil ?_
      rintro _ ⟨x, rfl⟩
      go_wp2
      go_roundw
      case rel => exact ⟨k + 1, by omega, by go_num, HBK.out.trans (x.h.mono HBK.out.size)⟩
      case measure => simp [intOf]; omega
    · go_wp2
      go_ret
      exact ⟨ret_bool rfl, HBe.out⟩
set_option maxHeartbeats 400000 in
theorem gAbs_any (n : Int) (h0 : -1000000 ≤ n) (h1 : n ≤ 1000000) (w : World) :
    Calls Try.prog 19 #[.int .i64 n] w fun e w' => e = .returned (.int .i64 (if n < 0 then -n else n)) ∧ w' = w := by
  by_cases h : n < 0
  · go_enter Try.func19, Try.ntmps19
    go_wp2
    go_ret
    exact ⟨ret_int rfl, rfl⟩
  · go_enter Try.func19, Try.ntmps19
    go_wp2
    go_ret
    exact ⟨ret_int rfl, rfl⟩
end Go.Proofs.Ythfacfoclekcbaa
