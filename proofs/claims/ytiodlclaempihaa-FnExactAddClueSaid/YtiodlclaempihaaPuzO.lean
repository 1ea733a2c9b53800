/- Puzzles, the model: the clues but one (pzWithout). -/
import Derived.Test.YtiodlclaempihaaPuz
import Derived.Test.YtiodlclaempihaaStep
import Derived.Deep.RegionHeld3
namespace Go.Proofs.Ytiodlclaempihaa
open Go.RowKit

theorem SlAt.dropIfT {w : World} {b off : Nat} {l : List (Int × Int × Int)} (h : SlAt tripS w (some ⟨b, off, none⟩) l) (k c : Nat) (hc : l.length ≤ c) :
    SlAt tripS w (if c = k + 1 then some ⟨b, off, none⟩ else some ⟨b, off + (k + 1) * 3, none⟩) (l.drop (k + 1)) := by
  split
  · exact .inl (List.drop_eq_nil_of_le (by omega))
  · exact h.drop (k + 1)
theorem clueInfo : (Try.prog.info? 25).map (fun i => (i.zero, i.size, i.bytes)) = some (some (.agg #[.int .i64 0, .int .i64 0, .int .i64 0]), tripS.size, 24) := by kernel_rfl
/-- the clues but the k-th -/
def wiP (cs : List (Int × Int × Int)) (k : Nat) : List (Int × Int × Int) := cs.take k ++ cs.drop (k + 1)
theorem wiP_len {cs : List (Int × Int × Int)} {k : Nat} (h : k < cs.length) : (wiP cs k).length = k + (cs.length - (k + 1)) := by
  unfold wiP; rw [List.length_append, List.length_take, List.length_drop]; omega
set_option maxRecDepth 100000 in
set_option maxHeartbeats 1000000 in
theorem pzWithout_any (A : Option Addr) (c k : Nat) (l : List (Int × Int × Int)) (w : World) (hkl : k < l.length) (hn : l.length ≤ 6) (hcap : l.length ≤ c) (hA : SlAt tripS w A l) :
    Calls Try.prog 62 #[.slice A l.length c, .int .i64 k] w fun e w' => ∃ A' n' c', e = .returned (.slice A' n' c') ∧ n' = (wiP l k).length ∧ SlOwn tripS w' w.heap.size 25 (.slice A' n' c') (wiP l k) ∧ Below w.heap.size w w' := by
  obtain ⟨i0, hi, hz0, hz1, hz2⟩ := info_parts clueInfo
  have HA := Lib.hid hA
  have hk0 : (0 : Int) ≤ (k : Int) := by omega
  have hk1 : (k : Int) ≤ (c : Int) := by omega
  have hk2 : (k : Int) + 1 ≤ (l.length : Int) := by omega
  have hk3 : (l.length : Int) ≤ (c : Int) := by omega
  have hk4 : (0 : Int) ≤ (k : Int) + 1 := by omega
  have hk5 : (k : Int) + 1 ≤ (c : Int) := by omega
  have hkw : IntKind.i64.wrap ((k : Int) + 1) = (k : Int) + 1 := IntWalk.i64_in _ (by omega)
  obtain ⟨b, off, rfl, -⟩ := hA.at_ hkl
  have HW1 := Lib.hid (((Below.refl w.heap.size w).alloc (Nat.le_refl _) (Obj.cells #[] 25)))
  have HD : Hid (SlOwn tripS (w.alloc (Obj.cells #[] 25)).drew w.heap.size 25 (.slice (some ⟨w.heap.size, 0, none⟩) 0 0) [] ∧ Below w.heap.size w (w.alloc (Obj.cells #[] 25)).drew ∧ SlAt tripS (w.alloc (Obj.cells #[] 25)).drew (some ⟨b, off, none⟩) l ∧ w.heap.size ≤ (w.alloc (Obj.cells #[] 25)).drew.heap.size) :=
    ⟨own_empty tripS w 25, ⟨HW1.out.os, HW1.out.tape, HW1.out.output, HW1.out.size, HW1.out.block⟩, (HA.out.below ⟨HW1.out.os, HW1.out.tape, HW1.out.output, HW1.out.size, HW1.out.block⟩), HW1.out.size⟩
  clear hA
  go_enter Try.func62, Try.ntmps62
  go_wp2
  go_region_held3 (fun _ => True)
    (first | exact trivial | go_keep)
    (first
      | (refine step_append_sls tripS _ rfl _ _ 34 rfl w.heap.size 25 i0 _ 24 Try.underlying34 hi hz0 hz1 hz2 rfl (by decide) _ [] rfl HD.out.1 (some ⟨b, off, none⟩) k c (l.take k) rfl (by rw [List.length_take]; omega) (HD.out.2.2.1.take k) (by simp; omega) HD.out.2.2.2 ?_; intro A5 k5 w5 ho5 hb5; have HB5 := Lib.hid (HD.out.2.1.trans hb5); have HO5 := Lib.hid ho5; have HA5 := Lib.hid ((HA.out.below HB5.out).dropIfT k c hcap); have hs5 := HB5.out.size; clear ho5 hb5)
      | (refine step_append_sls tripS _ rfl _ _ 34 rfl w.heap.size 25 i0 _ 24 Try.underlying34 hi hz0 hz1 hz2 rfl (by decide) _ ([] ++ l.take k) rfl HO5.out _ _ _ (l.drop (k + 1)) rfl (by rw [List.length_drop]) HA5.out (by simp; omega) hs5 ?_; intro A6 k6 w6 ho6 hb6; have HB6 := Lib.hid (HB5.out.trans hb6); have HO6 := Lib.hid ho6; clear ho6 hb6))
  have HN : Hid (SlOwn tripS w6 w.heap.size 25 (.slice A6 (min k l.length + (l.length - (k + 1))) k6) (wiP l k) ∧ min k l.length + (l.length - (k + 1)) = (wiP l k).length) := by
    show _ ∧ _
    have := HO6.out
    unfold wiP
    exact ⟨by simpa using this, by simp⟩
  go_wp2
  all_goals (
    go_ret
    exact ⟨A6, _, k6, rfl, HN.out.2, HN.out.1, HB6.out⟩)
end Go.Proofs.Ytiodlclaempihaa
