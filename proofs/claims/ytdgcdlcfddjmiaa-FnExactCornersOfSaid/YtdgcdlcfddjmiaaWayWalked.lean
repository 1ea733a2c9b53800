/- WayWalked on both sides: the time at which an ant falls. -/
import Derived.Test.YtdgcdlcfddjmiaaFallOf
namespace Go.Proofs.Ytdgcdlcfddjmiaa
open Go.RowKit

set_option maxHeartbeats 1000000 in
theorem specWayWalked_any (L : Int) (A : Option Addr) (c : Nat) (l : List (Int × Int)) (ant : Int) (w : World) (hA : AntsAt w A l) :
    Calls Try.prog 42 #[.agg #[.int .i64 L, .slice A l.length c], .int .i64 ant] w fun e w' => e = .returned (.tuple #[.int .i64 (foT L l ant), .bool (foOk L l ant)]) ∧ Below w.heap.size w w' := by
  have HA := Lib.hid (hA.alloc (Obj.cells #[Value.int IntKind.i64 L, Value.slice A l.length c] 31))
  clear hA
  cases hg : foOk L l ant with
  | false =>
    have HV : Hid (foT L l ant = 0) := by show _ = _; simp [foT, hg]
    have HG : Hid (∀ w, AntsAt w A l → Calls Try.prog 65 #[.agg #[.int .i64 L, .slice A l.length c], .int .i64 ant] w fun e w' => e = .returned (.bool false) ∧ Below w.heap.size w w') := fun w h => roAnt_at L A c l ant false hg w h
    clear hg
    go_enter Try.func42, Try.ntmps42
    go_wp2_with fail
    refine (HG.out _ HA.out).mono ?_
    rintro e w1 ⟨rfl, hb⟩
    go_wp2
    go_ret2
    exact ⟨ret_ib HV.out.symm rfl, ((Below.refl _ _).alloc (Nat.le_refl _) _).trans (hb.mono (by simp))⟩
  | true =>
    have HV : Hid (foT L l ant = ft ((fallAs L l).getD ant.toNat (0, 0, 0))) := by show _ = _; simp [foT, hg]
    have HG : Hid (∀ w, AntsAt w A l → Calls Try.prog 65 #[.agg #[.int .i64 L, .slice A l.length c], .int .i64 ant] w fun e w' => e = .returned (.bool true) ∧ Below w.heap.size w w') := fun w h => roAnt_at L A c l ant true hg w h
    simp only [foOk, hasB, Bool.and_eq_true, decide_eq_true_eq] at hg
    obtain ⟨hgood, h0, h1⟩ := hg
    obtain ⟨k, rfl⟩ := Int.eq_ofNat_of_zero_le h0
    simp only [Int.toNat_natCast] at HV
    have hk : k < l.length := by omega
    have hkf : k < (fallAs L l).length := by rw [fallAs_len hgood]; exact hk
    have hx : (fallsOf L l)[k]? = some (ft ((fallAs L l).getD k (0, 0, 0))) := by
      unfold fallsOf
      rw [List.getElem?_map, List.getD_eq_getElem?_getD, List.getElem?_eq_getElem hkf]; rfl
    have hlen : (fallsOf L l).length = l.length := fallsOf_len hgood
    have HRF := Lib.hid (fun w h => roFalls_good L A c l w hgood h)
    obtain ⟨T, hT⟩ : ∃ T, T = ft ((fallAs L l).getD k (0, 0, 0)) := ⟨_, rfl⟩
    rw [← hT] at HV hx
    clear hT
    have hkl : k < (fallsOf L l).length := by omega
    have hkl' : (k : Int) < ((fallsOf L l).length : Int) := by omega
    have HX := Lib.hid hx
    clear hgood hx hlen
    generalize fallsOf L l = m at *
    go_enter Try.func42, Try.ntmps42
    go_wp2_with fail
    refine (HG.out _ HA.out).mono ?_
    rintro e w1 ⟨rfl, hb⟩
    have c0 : w1.cell? ⟨w.heap.size, 0, none⟩ = some (.int .i64 L) := by rw [hb.cell (p := ⟨w.heap.size, 0, none⟩) (by simp)]; simp
    have c1 : w1.cell? ⟨w.heap.size, 1, none⟩ = some (.slice A l.length c) := by rw [hb.cell (p := ⟨w.heap.size, 1, none⟩) (by simp)]; simp
    have HB := Lib.hid (((Below.refl _ w).alloc (Nat.le_refl _) _).trans (hb.mono (by simp)))
    have HA1 := Lib.hid (HA.out.below hb)
    clear hb
    go_wp2_with fail
    refine (HRF.out _ HA1.out).mono ?_
    rintro e w2 ⟨A2, n2, k2, rfl, hn2, ho, hb2⟩
    subst hn2
    obtain ⟨b, off, rfl, l0, hc⟩ := ho.sl.int_at hkl
    have a0 := hc k _ HX.out
    have HB2 := Lib.hid (HB.out.trans (hb2.mono HB.out.size))
    clear hc ho hb2
    go_wp2
    go_ret2
    exact ⟨ret_ib HV.out.symm rfl, HB2.out⟩

set_option maxHeartbeats 1000000 in
theorem implWayWalked_any (L : Int) (A : Option Addr) (c : Nat) (l : List (Int × Int)) (ant : Int) (w : World) (hA : AntsAt w A l) :
    Calls Try.prog 43 #[.agg #[.int .i64 L, .slice A l.length c], .int .i64 ant] w fun e w' => e = .returned (.tuple #[.int .i64 (foT L l ant), .bool (foOk L l ant)]) ∧ Below w.heap.size w w' := by
  have HA := Lib.hid (hA.alloc (Obj.cells #[Value.int IntKind.i64 L, Value.slice A l.length c] 31))
  clear hA
  go_enter Try.func43, Try.ntmps43
  go_wp2_with fail
  refine (implFallOf_any L A c l ant _ HA.out).mono ?_
  rintro e w1 ⟨rfl, hb⟩
  go_wp2
  go_ret2
  exact ⟨ret_ib rfl rfl, ((Below.refl _ _).alloc (Nat.le_refl _) _).trans (hb.mono (by simp))⟩
end Go.Proofs.Ytdgcdlcfddjmiaa
