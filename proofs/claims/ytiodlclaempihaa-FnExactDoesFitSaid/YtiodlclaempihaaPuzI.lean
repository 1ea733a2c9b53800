/- DoesFit on the model's side. -/
import Derived.Test.YtiodlclaempihaaPuzH
namespace Go.Proofs.Ytiodlclaempihaa
open Go.RowKit

def dfOk (L : Int) (l : List (Int × Int)) (k a b : Int) : Bool := hidB L l && clB l.length k a b
def dfV (L : Int) (l : List (Int × Int)) (k a b : Int) : Bool := dfOk L l k a b && fitB L l k a b
theorem ret_bbP {a b x y : Bool} (h : a = b) (h' : x = y) : Ending.returned (.tuple #[.bool a, .bool x]) = .returned (.tuple #[.bool b, .bool y]) := by rw [h, h']
theorem hidB_len {L : Int} {l : List (Int × Int)} (h : hidB L l = true) : 1 ≤ l.length ∧ l.length ≤ 8 := by
  unfold hidB hplB at h
  simp only [Bool.and_eq_true] at h
  have := (inB_iff _ _ _).1 h.2.1.1.2
  simp at this
  omega
theorem hidB_good {L : Int} {l : List (Int × Int)} (h : hidB L l = true) : goodB L l = true := by
  unfold hidB at h
  simp only [Bool.and_eq_true] at h
  exact h.1
set_option maxRecDepth 100000 in
set_option maxHeartbeats 1000000 in
theorem specDoesFit_any (L k a b : Int) (A : Option Addr) (c : Nat) (l : List (Int × Int)) (w : World) (hA : AntsAt w A l) :
    Calls Try.prog 27 #[.agg #[.int .i64 k, .int .i64 a, .int .i64 b], .agg #[.int .i64 L, .slice A l.length c]] w fun e w' => e = .returned (.tuple #[.bool (dfV L l k a b), .bool (dfOk L l k a b)]) ∧ Below w.heap.size w w' := by
  obtain ⟨W, hW⟩ : ∃ W, W = (w.alloc (Obj.cells #[Value.int IntKind.i64 k, Value.int IntKind.i64 a, Value.int IntKind.i64 b] 25)).alloc (Obj.cells #[Value.int IntKind.i64 L, Value.slice A l.length c] 42) := ⟨_, rfl⟩
  have k0 : W.cell? ⟨w.heap.size, 0, none⟩ = some (.int .i64 k) := by rw [hW]; simp [go_sem]
  have k1 : W.cell? ⟨w.heap.size, 1, none⟩ = some (.int .i64 a) := by rw [hW]; simp [go_sem]
  have k2 : W.cell? ⟨w.heap.size, 2, none⟩ = some (.int .i64 b) := by rw [hW]; simp [go_sem]
  have c0 : W.cell? ⟨w.heap.size + 1, 0, none⟩ = some (.int .i64 L) := by rw [hW]; simp [go_sem]
  have c1 : W.cell? ⟨w.heap.size + 1, 1, none⟩ = some (.slice A l.length c) := by rw [hW]; simp [go_sem]
  have HBW : Hid (Below w.heap.size w W) := by show Below _ _ _; rw [hW]; exact ((Below.refl _ _).alloc (Nat.le_refl _) _).alloc (by simp) _
  have HA := Lib.hid (hA.below HBW.out)
  clear hA
  cases hh : hidB L l with
  | false =>
    have HV : Hid (dfV L l k a b = false ∧ dfOk L l k a b = false) := by show _ ∧ _; simp [dfV, dfOk, hh]
    have HH : Hid (∀ w, AntsAt w A l → Calls Try.prog 56 #[.agg #[.int .i64 L, .slice A l.length c]] w fun e w' => e = .returned (.bool false) ∧ Below w.heap.size w w') := fun w h => by
      rw [← hh]; exact pzHidden_any L A c l w h
    clear hh
    go_enter Try.func27, Try.ntmps27
    go_wp2_with fail
    rw [← hW]
    refine (HH.out _ HA.out).mono ?_
    rintro e w1 ⟨rfl, hb⟩
    go_wp2
    go_ret2
    exact ⟨ret_bbP HV.out.1.symm HV.out.2.symm, HBW.out.trans (hb.mono HBW.out.size)⟩
  | true =>
    have HH : Hid (∀ w, AntsAt w A l → Calls Try.prog 56 #[.agg #[.int .i64 L, .slice A l.length c]] w fun e w' => e = .returned (.bool true) ∧ Below w.heap.size w w') := fun w h => by
      rw [← hh]; exact pzHidden_any L A c l w h
    have hln := hidB_len hh
    have hgd := hidB_good hh
    cases hc : clB l.length k a b with
    | false =>
      have HV : Hid (dfV L l k a b = false ∧ dfOk L l k a b = false) := by show _ ∧ _; simp [dfV, dfOk, hc]
      have HC := Lib.hid (fun w => pzClue_at l.length k a b false hc w (by omega) (by omega))
      clear hh hc hgd
      go_enter Try.func27, Try.ntmps27
      go_wp2_with fail
      rw [← hW]
      refine (HH.out _ HA.out).mono ?_
      rintro e w1 ⟨rfl, hb⟩
      have k0 := Below.cell_some hb k0
      have k1 := Below.cell_some hb k1
      have k2 := Below.cell_some hb k2
      have c0 := Below.cell_some hb c0
      have c1 := Below.cell_some hb c1
      have HB1 := Lib.hid (HBW.out.trans (hb.mono HBW.out.size))
      clear hb
      go_wp2_with fail
      refine (HC.out _).mono ?_
      rintro e w2 ⟨rfl, hb2⟩
      have HB2 := Lib.hid (HB1.out.trans (hb2.mono HB1.out.size))
      clear hb2
      go_wp2
      go_ret2
      exact ⟨ret_bbP HV.out.1.symm HV.out.2.symm, HB2.out⟩
    | true =>
      have HV : Hid (dfV L l k a b = fitB L l k a b ∧ dfOk L l k a b = true) := by show _ ∧ _; simp [dfV, dfOk, hc, hh]
      have HC := Lib.hid (fun w => pzClue_at l.length k a b true hc w (by omega) (by omega))
      have HF := Lib.hid (fun w h => pzFits_any L k a b A c l w hc hgd h)
      clear hh hc hgd
      go_enter Try.func27, Try.ntmps27
      go_wp2_with fail
      rw [← hW]
      refine (HH.out _ HA.out).mono ?_
      rintro e w1 ⟨rfl, hb⟩
      have k0 := Below.cell_some hb k0
      have k1 := Below.cell_some hb k1
      have k2 := Below.cell_some hb k2
      have c0 := Below.cell_some hb c0
      have c1 := Below.cell_some hb c1
      have HA1 := Lib.hid (HA.out.below hb)
      have HB1 := Lib.hid (HBW.out.trans (hb.mono HBW.out.size))
      clear hb
      go_wp2_with fail
      refine (HC.out _).mono ?_
      rintro e w2 ⟨rfl, hb2⟩
      have k0 := Below.cell_some hb2 k0
      have k1 := Below.cell_some hb2 k1
      have k2 := Below.cell_some hb2 k2
      have c0 := Below.cell_some hb2 c0
      have c1 := Below.cell_some hb2 c1
      have HA2 := Lib.hid (HA1.out.below hb2)
      have HB2 := Lib.hid (HB1.out.trans (hb2.mono HB1.out.size))
      clear hb2
      go_wp2_with fail
      refine (HF.out _ HA2.out).mono ?_
      rintro e w3 ⟨rfl, hb3⟩
      have HB3 := Lib.hid (HB2.out.trans (hb3.mono HB2.out.size))
      clear hb3
      go_wp2
      go_ret2
      exact ⟨ret_bbP HV.out.1.symm HV.out.2.symm, HB3.out⟩
end Go.Proofs.Ytiodlclaempihaa
