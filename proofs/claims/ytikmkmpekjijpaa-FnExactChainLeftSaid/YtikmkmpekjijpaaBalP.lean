/- Balls on the model's side, thirteenth part: the calls on chains. -/
import Derived.Test.YtikmkmpekjijpaaBalN
namespace Go.Proofs.Ytikmkmpekjijpaa
open Go.RowKit

def clW (l : List Int) : List (Int × Int) := if chB l then chL l else []
theorem cl_f {l : List Int} (h : chB l = false) : clW l = [] := by unfold clW; rw [h]; rfl
theorem cl_t {l : List Int} (h : chB l = true) : clW l = chL l := by unfold clW; rw [h]; rfl
set_option maxHeartbeats 400000 in
theorem specChainLeft_any (A : Option Addr) (c : Nat) (l : List Int) (w : World) (hn : l.length ≤ 1048576) (hA : SlAt intS w A l) :
    Calls Try.prog 44 #[.slice A l.length c] w fun e w' => ∃ A1 n1 c1, e = .returned (.tuple #[.slice A1 n1 c1, .bool (chB l)]) ∧ n1 = (clW l).length ∧ SlOwn pairS w' w.heap.size 25 (.slice A1 n1 c1) (clW l) ∧ Below w.heap.size w w' := by
  have HM := Lib.hid (bMasses_any A c l w hn hA)
  cases hc : chB l with
  | false =>
    have HV := Lib.hid (cl_f hc)
    rw [hc] at HM
    clear hA hc
    go_enter Try.func44, Try.ntmps44
    go_wp2_with fail
    refine HM.out.mono ?_
    rintro e w1 ⟨rfl, rfl⟩
    go_wp2
    exact bodyPost_ret (v := .tuple #[.slice none 0 0, .bool false]) (by simp [results, Try.results44, go_sem]) rfl ⟨none, 0, 0, rfl, by rw [HV.out]; rfl, by rw [HV.out]; exact SlOwn.nil _ _ _ _, Below.refl _ _⟩
  | true =>
    have HV := Lib.hid (cl_t hc)
    have HK := Lib.hid (bChain_any A c l w hA hc)
    rw [hc] at HM
    clear hA hc
    go_enter Try.func44, Try.ntmps44
    go_wp2_with fail
    refine HM.out.mono ?_
    rintro e w1 ⟨rfl, rfl⟩
    go_wp2_with fail
    refine HK.out.mono ?_
    rintro e w1 ⟨A1, n1, c1, rfl, hn1, ho, hb⟩
    have HO := Lib.hid ho
    have HB := Lib.hid hb
    clear hn1 ho hb
    go_wp2
    exact bodyPost_ret (v := .tuple #[.slice A1 n1 c1, .bool true]) (by simp [results, Try.results44, go_sem]) rfl ⟨A1, n1, c1, rfl, by rw [HV.out]; exact ba_len HO.out, by rw [HV.out]; exact HO.out, HB.out⟩

def clP (l : List Int) : Int × Int := if chB l then chNow l (l.length - 1) else (0, 0)
theorem clP_f {l : List Int} (h : chB l = false) : clP l = (0, 0) := by unfold clP; rw [h]; rfl
theorem clP_t {l : List Int} (h : chB l = true) : clP l = chNow l (l.length - 1) := by unfold clP; rw [h]; rfl
theorem chL_last {l : List Int} (h : chB l = true) : (chL l).length = l.length ∧ (chL l).getD (l.length - 1) (0, 0) = chNow l (l.length - 1) := by
  have h2 := ((chB_iff l).1 h).1
  unfold chL
  refine ⟨by rw [List.length_append, chOut_len]; simp only [List.length_cons, List.length_nil]; omega, ?_⟩
  rw [List.getD_eq_getElem?_getD, List.getElem?_append_right (by rw [chOut_len]; omega), chOut_len, Nat.sub_self]
  rfl
set_option maxHeartbeats 400000 in
theorem specChainPace_any (A : Option Addr) (c : Nat) (l : List Int) (w : World) (hn : l.length ≤ 1048576) (hA : SlAt intS w A l) :
    Calls Try.prog 40 #[.slice A l.length c] w fun e w' => e = .returned (.tuple #[.agg #[.int .i64 (clP l).1, .int .i64 (clP l).2], .bool (chB l)]) ∧ Below w.heap.size w w' := by
  have hA1 := hA.below ((Below.refl w.heap.size w).alloc (Nat.le_refl _) (Obj.cells #[Value.int .i64 0, Value.int .i64 0] 25))
  have HM := Lib.hid (bMasses_any A c l _ hn hA1)
  cases hc : chB l with
  | false =>
    have HV := Lib.hid (clP_f hc)
    rw [hc] at HM
    clear hA hc hA1
    go_enter Try.func40, Try.ntmps40
    go_wp2_with fail
    refine HM.out.mono ?_
    rintro e w1 ⟨rfl, rfl⟩
    go_wp2
    exact bodyPost_ret (v := .tuple #[.agg #[.int .i64 0, .int .i64 0], .bool false]) (by simp [results, Try.results40, go_sem]) rfl ⟨by rw [HV.out], (Below.refl _ _).alloc (Nat.le_refl _) _⟩
  | true =>
    have HV := Lib.hid (clP_t hc)
    have HK := Lib.hid (bChain_any A c l _ hA1 hc)
    have hl := chL_last hc
    have h2 := ((chB_iff l).1 hc).1
    obtain ⟨K, hK⟩ : ∃ K, K = l.length - 1 := ⟨_, rfl⟩
    rw [← hK] at hl HV
    have k1 : IntKind.i64.wrap ((l.length : Int) - 1) = (K : Int) := by
      rw [show (l.length : Int) - 1 = (K : Int) by omega]
      exact IntWalk.i64_in _ (by omega)
    have k2 : (K : Int) < (l.length : Int) := by omega
    have hKl := Lib.hid (show K < l.length by omega)
    clear hK
    have HL := Lib.hid hl
    rw [hc] at HM
    clear hA hc hA1 hl
    go_enter Try.func40, Try.ntmps40
    go_wp2_with fail
    refine HM.out.mono ?_
    rintro e w1 ⟨rfl, rfl⟩
    go_wp2_with fail
    refine HK.out.mono ?_
    rintro e w1 ⟨A1, n1, c1, rfl, rfl, ho, hb⟩
    obtain ⟨s1, d0, d1, f0, f1⟩ := ((PC.start w 0 0 25).below hb).parts
    obtain ⟨b, off, rfl, l0, hcl⟩ := (slAt_ants ho.sl).at_ (show K < (chL l).length by rw [HL.out.1]; exact hKl.out)
    obtain ⟨a0, a1⟩ := hcl K (by rw [HL.out.1]; exact hKl.out)
    rw [HL.out.2] at a0 a1
    obtain ⟨⟨y1, y2⟩, hy⟩ : ∃ x, chNow l K = x := ⟨_, rfl⟩
    rw [hy] at a0 a1 HV
    simp only at a0 a1
    have HB := Lib.hid (((Below.refl w.heap.size w).alloc (Nat.le_refl _) (Obj.cells #[Value.int .i64 0, Value.int .i64 0] 25)).trans (hb.mono (by simp)))
    clear ho hb hcl hy
    go_wp2
    exact bodyPost_ret (v := .tuple #[.agg #[.int .i64 y1, .int .i64 y2], .bool true]) (by simp [results, Try.results40, go_sem, d0, d1]) rfl ⟨by rw [HV.out], below_set2 HB.out _ _ (Nat.le_refl _)⟩
end Go.Proofs.Ytikmkmpekjijpaa
