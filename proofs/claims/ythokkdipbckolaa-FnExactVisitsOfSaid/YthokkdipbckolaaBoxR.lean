/- A run of a box of the model behind a time. -/
import Derived.Test.YthokkdipbckolaaBoxF
import Derived.Test.YthokkdipbckolaaBoxS
namespace Go.Proofs.Ythokkdipbckolaa
open Go.RowKit

set_option maxRecDepth 100000 in
set_option maxHeartbeats 2000000 in
theorem waFor_any (L : Int) (A : Option Addr) (c : Nat) (l : List (Int × Int)) (T : Nat) (w : World) (hg : boxB L l = true) (hT : T ≤ 2000) (hA : AntsAt w A l) :
    Calls Try.prog 46 #[.agg #[.int .i64 L, .slice A l.length c], .int .i64 T] w fun e w' => ∃ b ab gb ca cg, e = .returned (.pointer (some ⟨b, 0, none⟩)) ∧ BxAt w' b ab 0 gb 0 l.length ca cg L (runB L l T).1 (leB L l T) (riB L l T) (runB L l T).2 (knB L l T) ∧ (w.heap.size ≤ b ∧ w.heap.size ≤ ab ∧ w.heap.size ≤ gb) ∧ Below w.heap.size w w' := by
  have HS := Lib.hid (waStart_any L A c l _ hg (hA.alloc (Obj.cells #[Value.int IntKind.i64 L, Value.slice A l.length c] 29)))
  have hl := boxB_len hg
  have HM : Hid (∀ k, (runB L l k).2 ≤ 16 * k ∧ leB L l k ≤ 16 * k ∧ riB L l k ≤ 16 * k) := fun k => ⟨runB_le (box_of hg) hl.2.2.2 k, leB_le (box_of hg) hl.2.2.2 k, riB_le (box_of hg) hl.2.2.2 k⟩
  have HGL := Lib.hid (knB_le L l)
  have HWL := Lib.hid (runB_wall (box_of hg))
  clear hA hg
  go_enter Try.func46, Try.ntmps46
  go_wp2_with fail
  refine HS.out.mono ?_
  rintro e w1 ⟨b, ab, gb, ca, cg, rfl, hr, hge, hb⟩
  have HR := Lib.hid hr
  have HG : Hid (w.heap.size ≤ b ∧ w.heap.size ≤ ab ∧ w.heap.size ≤ gb) := by simp at hge; show _ ∧ _ ∧ _; omega
  have HB := Lib.hid (((Below.refl _ w).alloc (Nat.le_refl _) _).trans (hb.mono (by simp)))
  clear hr hge hb
  go_wp2
  go_loopw [1] (fun v wr => ∃ k : Nat, k ≤ T ∧ v = .int .i64 ((T - k : Nat) : Int) ∧ BxAt wr b ab 0 gb 0 l.length ca cg L (runB L l k).1 (leB L l k) (riB L l k) (runB L l k).2 (knB L l k) ∧ Below w.heap.size w wr)
    (fun v _ => (intOf v).toNat)
  case atStart => exact ⟨0, Nat.zero_le _, rfl, HR.out, HB.out⟩
  case round =>
    obtain ⟨k, hk, rfl, hra, hbr⟩ := hrel
    obtain ⟨W1, rfl⟩ : ∃ W, W = wr := ⟨_, rfl⟩
    have HRA := Lib.hid hra
    have HBR := Lib.hid hbr
    clear hra hbr
    by_cases hlt : k < T
    · have h0 : (0 : Int) < ((T - k : Nat) : Int) := by omega
      have hw : IntKind.i64.wrap (((T - k : Nat) : Int) - 1) = ((T - k : Nat) : Int) - 1 := IntWalk.i64_in _ (by omega)
      have hm : leB L l k ≤ 1000000 ∧ riB L l k ≤ 1000000 ∧ (runB L l k).2 ≤ 1000000 := by have := HM.out k; omega
      have HNX : Hid (runB L l (k + 1) = stepB L (runB L l k)) := rfl
      have HNL : Hid (leB L l (k + 1) = leB L l k + atB 0 (runB L l k).1) := rfl
      have HNR : Hid (riB L l (k + 1) = riB L l k + atB L (runB L l k).1) := rfl
      have HNG : Hid (knB L l (k + 1) = stepK L (runB L l k).1 (knB L l k)) := rfl
      have HGK : Hid (∀ (j : Nat) (g : Int), (knB L l k)[j]? = some g → 0 ≤ g ∧ g ≤ 1000000) := fun j g hj => by have := HGL.out k j g hj; omega
      have HWK := Lib.hid (HWL.out k)
      generalize runB L l k = s at *
      generalize knB L l k = gg at *
      generalize leB L l k = lf at *
      generalize riB L l k = rt at *
      obtain ⟨l1, m1⟩ := s
      have HSTP := Lib.hid (stepBox_any w.heap.size b ab 0 gb 0 l.length ca cg L l1 lf rt m1 gg _ HRA.out HWK.out HGK.out ⟨by omega, by omega⟩ hl.2.2.2 hm HG.out)
      go_wp2_with fail
      refine HSTP.out.mono ?_
      rintro e w2 ⟨v, rfl, hr2, hb2⟩
      have HR2 := Lib.hid hr2
      have HB2 := Lib.hid (HBR.out.trans hb2)
      clear hr2 hb2
      go_wp2
      go_roundw
      case rel => exact ⟨k + 1, by omega, by go_num, by rw [HNX.out, HNG.out, HNL.out, HNR.out]; exact HR2.out, HB2.out⟩
      case measure => simp [intOf]; omega
    · have hke : k = T := by omega
      subst hke
      have h0 : ¬ (0 : Int) < ((k - k : Nat) : Int) := by omega
      go_wp2
      go_ret
      exact ⟨_, rfl, _, _, ⟨_, _, HRA.out⟩, HG.out, HBR.out⟩
end Go.Proofs.Ythokkdipbckolaa
