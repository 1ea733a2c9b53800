/- Balls on the program's side: the calls on chains. -/
import Derived.Test.YtikmkmpekjijpaaPaL
namespace Go.Proofs.Ytikmkmpekjijpaa
open Go.RowKit

theorem clW_bd (l : List Int) : (((clW l).length : Nat) : Int) ≤ 1048576 := by
  unfold clW
  cases h : chB l with
  | false => simp
  | true =>
    have h1 := (chL_last h).1
    have h2 := ((chB_iff l).1 h).1
    rw [if_pos rfl]
    omega
set_option maxHeartbeats 1000000 in
theorem implChainLeft_any (A : Option Addr) (c : Nat) (l : List Int) (w : World) (hn : l.length ≤ 1048576) (hc : l.length ≤ c) (hA : SlAt intS w A l) :
    Calls Try.prog 45 #[.slice A l.length c] w fun e w' => ∃ A1 n1 c1, e = .returned (.tuple #[.slice A1 n1 c1, .bool (chB l)]) ∧ n1 = (clW l).length ∧ SlOwn pairS w' w.heap.size 25 (.slice A1 n1 c1) (clW l) ∧ Below w.heap.size w w' := by
  have HK := Lib.hid (chainOf_any A c l w hn hc hA)
  clear hA
  generalize chB l = R at *
  go_enter Try.func45, Try.ntmps45
  go_wp2_with fail
  refine HK.out.mono ?_
  rintro e w1 ⟨A1, n1, c1, rfl, hn1, ho, hb⟩
  have HN := Lib.hid hn1
  have HO := Lib.hid ho
  have HB := Lib.hid hb
  clear hn1 ho hb
  go_wp2
  exact bodyPost_ret (v := .tuple #[.slice A1 n1 c1, .bool R]) (by simp [results, Try.results45, go_sem]) rfl ⟨A1, n1, c1, rfl, HN.out, HO.out, HB.out⟩

set_option maxHeartbeats 1000000 in
theorem implChainPace_any (A : Option Addr) (c : Nat) (l : List Int) (w : World) (hn : l.length ≤ 1048576) (hc : l.length ≤ c) (hA : SlAt intS w A l) :
    Calls Try.prog 42 #[.slice A l.length c] w fun e w' => e = .returned (.tuple #[.agg #[.int .i64 (clP l).1, .int .i64 (clP l).2], .bool (chB l)]) ∧ Below w.heap.size w w' := by
  have hA1 := hA.below ((Below.refl w.heap.size w).alloc (Nat.le_refl _) (Obj.cells #[Value.int .i64 0, Value.int .i64 0] 25))
  have HK := Lib.hid (chainOf_any A c l _ hn hc hA1)
  cases hcb : chB l with
  | false =>
    have HV := Lib.hid (clP_f hcb)
    rw [hcb] at HK
    clear hA hcb hA1
    go_enter Try.func42, Try.ntmps42
    go_wp2_with fail
    refine HK.out.mono ?_
    rintro e w1 ⟨A1, n1, c1, rfl, _, _, hb⟩
    obtain ⟨s1, d0, d1, f0, f1⟩ := ((PC.start w 0 0 25).below hb).parts
    have HB := Lib.hid (((Below.refl w.heap.size w).alloc (Nat.le_refl _) (Obj.cells #[Value.int .i64 0, Value.int .i64 0] 25)).trans (hb.mono (by simp)))
    clear hb
    go_wp2
    exact bodyPost_ret (v := .tuple #[.agg #[.int .i64 0, .int .i64 0], .bool false]) (by simp [results, Try.results42, go_sem, d0, d1]) rfl ⟨by rw [HV.out], below_set2 HB.out _ _ (Nat.le_refl _)⟩
  | true =>
    have HV := Lib.hid (clP_t hcb)
    have hl := chL_last hcb
    have h2 := ((chB_iff l).1 hcb).1
    have hw := cl_t hcb
    obtain ⟨K, hK⟩ : ∃ K, K = l.length - 1 := ⟨_, rfl⟩
    rw [← hK] at hl HV
    have k1 : IntKind.i64.wrap ((l.length : Int) - 1) = (K : Int) := by
      rw [show (l.length : Int) - 1 = (K : Int) by omega]
      exact IntWalk.i64_in _ (by omega)
    have k2 : (K : Int) < (l.length : Int) := by omega
    have hKl := Lib.hid (show K < l.length by omega)
    clear hK
    have HL := Lib.hid hl
    rw [hcb, hw, hl.1] at HK
    clear hA hcb hA1 hl
    go_enter Try.func42, Try.ntmps42
    go_wp2_with fail
    refine HK.out.mono ?_
    rintro e w1 ⟨A1, n1, c1, rfl, rfl, ho, hb⟩
    obtain ⟨s1, d0, d1, f0, f1⟩ := ((PC.start w 0 0 25).below hb).parts
    obtain ⟨b, off, rfl, l0, hcl⟩ := (slAt_ants ho.sl).at_ (show K < (chL l).length by rw [HL.out.1]; exact hKl.out)
    obtain ⟨a0, a1⟩ := hcl K (by rw [HL.out.1]; exact hKl.out)
    rw [HL.out.2] at a0 a1
    obtain ⟨⟨y1, y2⟩, hy⟩ : ∃ x, chNow l K = x := ⟨_, rfl⟩
    rw [hy] at a0 a1 HV
    simp only at a0 a1
    have HB := Lib.hid (((Below.refl w.heap.size w).alloc (Nat.le_refl _) (Obj.cells #[Value.int .i64 0, Value.int .i64 0] 25)).trans (hb.mono (by simp)))
    clear ho hb hcl hy
    go_wp2
    exact bodyPost_ret (v := .tuple #[.agg #[.int .i64 y1, .int .i64 y2], .bool true]) (by simp [results, Try.results42, go_sem, d0, d1]) rfl ⟨by rw [HV.out], below_set2 HB.out _ _ (Nat.le_refl _)⟩
end Go.Proofs.Ytikmkmpekjijpaa
