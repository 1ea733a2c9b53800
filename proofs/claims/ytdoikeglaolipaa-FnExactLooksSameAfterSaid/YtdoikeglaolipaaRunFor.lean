/- A run of the model behind a time. -/
import Derived.Test.YtdoikeglaolipaaRunS
namespace Go.Proofs.Ytdoikeglaolipaa
open Go.RowKit

theorem circ_of {L : Int} {l : List (Int × Int)} (h : ciB L l = true) : Circ L l := by
  have hl := ciB_len h
  have hg := ciB_good h
  refine ⟨hl.1, hl.2.2.1, fun x hx => ?_, ?_⟩
  · obtain ⟨k, hk, rfl⟩ := List.mem_iff_getElem.1 hx
    have h1 := good_ant hg (List.getElem?_eq_getElem hk)
    have h2 := ciB_way h (List.getElem?_eq_getElem hk)
    exact ⟨h1.1, by omega, h1.2.2.1, h1.2.2.2⟩
  · rw [List.pairwise_iff_getElem]
    intro i j hi hj hij
    have h1 := good_lt hg i j hij hj
    rw [getD_lt' hi, getD_lt' hj, antLt_iff] at h1
    omega
theorem runC_len {L : Int} {l : List (Int × Int)} (h : Circ L l) (t : Nat) : (runC L l t).1.length = l.length := by
  have := (run_ok h t).1.length_eq
  rwa [List.length_map] at this
theorem runC_le {L : Int} {l : List (Int × Int)} (h : Circ L l) (hl : l.length ≤ 16) : ∀ t, (runC L l t).2 ≤ 256 * t
  | 0 => Nat.le_refl _
  | t + 1 => by
    have h1 := runC_le h hl t
    have h2 := runC_len h t
    have h3 := trI_le ((runC L l t).1.map (mvC L), (runC L l t).2) (runC L l t).1.length (by omega)
    show (trI (runC L l t).1.length ((runC L l t).1.map (mvC L), (runC L l t).2)).2 ≤ _
    simp only at h3
    omega

def runG (L : Int) (l : List (Int × Int)) : Nat → List Int
  | 0 => List.replicate l.length 0
  | t + 1 => stepG (runC L l t).1 (runG L l t)
theorem runC_way {L : Int} {l : List (Int × Int)} (h : Circ L l) (t : Nat) (x : Int × Int) (hx : x ∈ (runC L l t).1) : x.2 = -1 ∨ x.2 = 1 := by
  obtain ⟨y, hy, rfl⟩ := List.mem_map.1 ((run_ok h t).1.mem_iff.1 hx)
  exact (h.ant y hy).2.2.2
theorem stepG_inv {l : List (Int × Int)} {gl : List Int} {k : Nat} {g : Int} (h : (stepG l gl)[k]? = some g) : ∃ x g0, l[k]? = some x ∧ gl[k]? = some g0 ∧ g = g0 + x.2 := by
  unfold stepG at h
  rw [List.getElem?_zipWith] at h
  cases hx : l[k]? with
  | none => rw [hx] at h; simp at h
  | some x =>
    cases hg : gl[k]? with
    | none => rw [hx, hg] at h; simp at h
    | some g0 =>
      rw [hx, hg] at h
      injection h with h
      exact ⟨x, g0, rfl, rfl, h.symm⟩
theorem runG_le {L : Int} {l : List (Int × Int)} (h : Circ L l) : ∀ (t k : Nat) (g : Int), (runG L l t)[k]? = some g → -(t : Int) ≤ g ∧ g ≤ t
  | 0, k, g, hg => by
    have := List.mem_of_getElem? hg
    have : g = 0 := List.eq_of_mem_replicate this
    omega
  | t + 1, k, g, hg => by
    obtain ⟨x, g0, hx, hg0, rfl⟩ := stepG_inv hg
    have h1 := runG_le h t k g0 hg0
    have h2 := runC_way h t x (List.mem_of_getElem? hx)
    omega

set_option maxRecDepth 100000 in
set_option maxHeartbeats 2000000 in
theorem ciRunFor_any (L : Int) (A : Option Addr) (c : Nat) (l : List (Int × Int)) (T : Nat) (w : World) (hg : ciB L l = true) (hT : T ≤ 4000) (hA : AntsAt w A l) :
    Calls Try.prog 39 #[.agg #[.int .i64 L, .slice A l.length c], .int .i64 T] w fun e w' => ∃ b ab gb ca cg, e = .returned (.pointer (some ⟨b, 0, none⟩)) ∧ RunAt w' b ab 0 gb 0 l.length ca cg L (runC L l T).1 (runC L l T).2 (runG L l T) ∧ (w.heap.size ≤ b ∧ w.heap.size ≤ ab ∧ w.heap.size ≤ gb) ∧ Below w.heap.size w w' := by
  have HS := Lib.hid (ciStart_any L A c l _ hg (hA.alloc (Obj.cells #[Value.int IntKind.i64 L, Value.slice A l.length c] 28)))
  have hl := ciB_len hg
  have HM := Lib.hid (runC_le (circ_of hg) hl.2.2.2)
  have HGL := Lib.hid (runG_le (circ_of hg))
  clear hA hg
  go_enter Try.func39, Try.ntmps39
  go_wp2_with fail
  refine HS.out.mono ?_
  rintro e w1 ⟨b, ab, gb, ca, cg, rfl, hr, hge, hb⟩
  have HR := Lib.hid hr
  have HG : Hid (w.heap.size ≤ b ∧ w.heap.size ≤ ab ∧ w.heap.size ≤ gb) := by simp at hge; show _ ∧ _ ∧ _; omega
  have HB := Lib.hid (((Below.refl _ w).alloc (Nat.le_refl _) _).trans (hb.mono (by simp)))
  clear hr hge hb
  go_wp2
  go_loopw [1] (fun v wr => ∃ k : Nat, k ≤ T ∧ v = .int .i64 ((T - k : Nat) : Int) ∧ RunAt wr b ab 0 gb 0 l.length ca cg L (runC L l k).1 (runC L l k).2 (runG L l k) ∧ Below w.heap.size w wr)
    (fun v _ => (intOf v).toNat)
  case atStart => exact ⟨0, Nat.zero_le _, rfl, HR.out, HB.out⟩
  case round =>
    obtain ⟨k, hk, rfl, hra, hbr⟩ := hrel
    obtain ⟨W1, rfl⟩ : ∃ W, W = wr := ⟨_, rfl⟩
    have HRA := Lib.hid hra
    have HBR := Lib.hid hbr
    clear hra hbr
    by_cases hlt : k < T
    · have h0 : (0 : Int) < ((T - k : Nat) : Int) := by omega
      have hw : IntKind.i64.wrap (((T - k : Nat) : Int) - 1) = ((T - k : Nat) : Int) - 1 := IntWalk.i64_in _ (by omega)
      have hm : (runC L l k).2 ≤ 1000000000 := by have := HM.out k; omega
      have HNX : Hid (runC L l (k + 1) = stepC L (runC L l k)) := rfl
      have HNG : Hid (runG L l (k + 1) = stepG (runC L l k).1 (runG L l k)) := rfl
      have HGK : Hid (∀ (j : Nat) (g : Int), (runG L l k)[j]? = some g → -1000000 ≤ g ∧ g ≤ 1000000) := fun j g hj => by have := HGL.out k j g hj; omega
      generalize runC L l k = s at *
      generalize runG L l k = gg at *
      obtain ⟨l1, m1⟩ := s
      have HSTP := Lib.hid (step_any w.heap.size b ab 0 gb 0 l.length ca cg L l1 m1 gg _ HRA.out HGK.out ⟨by omega, by omega⟩ hl.2.2.2 hm HG.out)
      go_wp2_with fail
      refine HSTP.out.mono ?_
      rintro e w2 ⟨v, rfl, hr2, hb2⟩
      have HR2 := Lib.hid hr2
      have HB2 := Lib.hid (HBR.out.trans hb2)
      clear hr2 hb2
      go_wp2
      go_roundw
      case rel => exact ⟨k + 1, by omega, by go_num, by rw [HNX.out, HNG.out]; exact HR2.out, HB2.out⟩
      case measure => simp [intOf]; omega
    · have hke : k = T := by omega
      subst hke
      have h0 : ¬ (0 : Int) < ((k - k : Nat) : Int) := by omega
      go_wp2
      go_ret
      exact ⟨_, rfl, _, _, ⟨_, _, HRA.out⟩, HG.out, HBR.out⟩
end Go.Proofs.Ytdoikeglaolipaa
