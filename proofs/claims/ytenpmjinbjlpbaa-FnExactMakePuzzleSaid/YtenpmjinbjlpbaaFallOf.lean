/- FallOf: the contracts of the program's and of the model's, and of roAnt, hasAnt, (ghost).end. -/
import Derived.Test.YtenpmjinbjlpbaaLast
namespace Go.Proofs.Ytenpmjinbjlpbaa
open Go.RowKit

def endOf (g : Int × Int × Int) : Int := if g.2.1 = -1 then 0 else g.2.2
def hasB (n : Nat) (ant : Int) : Bool := decide (0 ≤ ant) && decide (ant < n)
/-- what FallOf returns -/
def foOk (L : Int) (l : List (Int × Int)) (ant : Int) : Bool := goodB L l && hasB l.length ant
def foT (L : Int) (l : List (Int × Int)) (ant : Int) : Int := if foOk L l ant then ft ((fallAs L l).getD ant.toNat (0, 0, 0)) else 0
def foE (L : Int) (l : List (Int × Int)) (ant : Int) : Int := if foOk L l ant then endOf ((fallAs L l).getD ant.toNat (0, 0, 0)) else 0

theorem end_any (a y L : Int) (hg : GoodGhost (a, y, L)) (w : World) :
    Calls Try.prog 84 #[.agg #[.int .i64 a, .int .i64 y, .int .i64 L]] w fun e w' => e = .returned (.int .i64 (endOf (a, y, L))) ∧ Below w.heap.size w w' := by
  obtain ⟨h1, h2, h3, h4, h5⟩ := hg
  simp only at h1 h2 h3 h4 h5
  rcases h5 with rfl | rfl
  · go_enter Try.func84, Try.ntmps84
    go_wp2_with fail
    refine (goesLeft_at a (-1) L true rfl _).mono ?_
    rintro e w1 ⟨rfl, hb⟩
    go_wp2
    go_ret
    exact ⟨ret_int rfl, ((Below.refl _ w).alloc (Nat.le_refl _) _).trans (hb.mono (by simp))⟩
  · go_enter Try.func84, Try.ntmps84
    go_wp2_with fail
    refine (goesLeft_at a 1 L false rfl _).mono ?_
    rintro e w1 ⟨rfl, hb⟩
    have hz : w.heap.size < w1.heap.size := by have := hb.size; simp at this; omega
    have c2 : w1.cell? ⟨w.heap.size, 2, none⟩ = some (.int .i64 L) := by rw [hb.cell (p := ⟨w.heap.size, 2, none⟩) (by simp)]; simp
    go_wp2
    go_ret
    exact ⟨ret_int rfl, ((Below.refl _ w).alloc (Nat.le_refl _) _).trans (hb.mono (by simp))⟩

theorem hasAnt_at (L : Int) (A : Option Addr) (n c : Nat) (ant : Int) (r : Bool) (hr : hasB n ant = r) (w : World) :
    Calls Try.prog 81 #[.agg #[.int .i64 L, .slice A n c], .int .i64 ant] w fun e w' => e = .returned (.bool r) ∧ Below w.heap.size w w' := by
  subst hr
  go_enter Try.func81, Try.ntmps81
  go_wp2
  all_goals go_ret
  all_goals (refine ⟨ret_bool ?_, (Below.refl _ _).alloc (Nat.le_refl _) _⟩)
  all_goals (unfold hasB; simp [*])
  all_goals omega


theorem fallAs_left {L : Int} {l : List (Int × Int)} {k : Nat} (hk : k < nL L l) : ((fallAs L l).getD k (0, 0, 0)).2.1 = -1 := by
  unfold nL at hk
  unfold fallAs
  rw [List.getD_eq_getElem?_getD, List.getElem?_append_left hk, List.getElem?_eq_getElem hk]
  exact (way_mem (List.getElem_mem hk)).2
theorem fallAs_right {L : Int} {l : List (Int × Int)} {k : Nat} (hk : nL L l ≤ k) (hk2 : k < (fallAs L l).length) : ((fallAs L l).getD k (0, 0, 0)).2.1 = 1 := by
  unfold nL at hk
  unfold fallAs at *
  rw [List.length_append] at hk2
  have h2 : k - (way (-1) (gsOf L l)).length < (way 1 (gsOf L l)).length := by omega
  rw [List.getD_eq_getElem?_getD, List.getElem?_append_right hk, List.getElem?_eq_getElem h2]
  exact (way_mem (List.getElem_mem h2)).2


theorem fallTime_at (a y L t : Int) (hg : GoodGhost (a, y, L)) (ht : ft (a, y, L) = t) (w : World) :
    Calls Try.prog 83 #[.agg #[.int .i64 a, .int .i64 y, .int .i64 L]] w fun e w' => e = .returned (.int .i64 t) ∧ Below w.heap.size w w' := by
  subst ht; exact fallTime_any a y L hg w

theorem end_at (a y L t : Int) (hg : GoodGhost (a, y, L)) (ht : endOf (a, y, L) = t) (w : World) :
    Calls Try.prog 84 #[.agg #[.int .i64 a, .int .i64 y, .int .i64 L]] w fun e w' => e = .returned (.int .i64 t) ∧ Below w.heap.size w w' := by
  subst ht; exact end_any a y L hg w

set_option maxHeartbeats 1000000 in
theorem implFallOf_any (L : Int) (A : Option Addr) (c : Nat) (l : List (Int × Int)) (ant : Int) (w : World) (hA : AntsAt w A l) :
    Calls Try.prog 66 #[.agg #[.int .i64 L, .slice A l.length c], .int .i64 ant] w fun e w' => e = .returned (.tuple #[.int .i64 (foT L l ant), .int .i64 (foE L l ant), .bool (foOk L l ant)]) ∧ Below w.heap.size w w' := by
  have HA := Lib.hid (hA.alloc (Obj.cells #[Value.int IntKind.i64 L, Value.slice A l.length c] 47))
  clear hA
  cases hg : goodB L l with
  | false =>
    have HV : Hid (foT L l ant = 0 ∧ foE L l ant = 0 ∧ foOk L l ant = false) := by show _ ∧ _ ∧ _; simp [foT, foE, foOk, hg]
    have HG : Hid (∀ w, AntsAt w A l → Calls Try.prog 62 #[.agg #[.int .i64 L, .slice A l.length c]] w fun e w' => e = .returned (.bool false) ∧ Below w.heap.size w w') := fun w h => by
      rw [← hg]; exact isRod_any L A c l w h
    clear hg
    go_enter Try.func66, Try.ntmps66
    go_wp2_with fail
    refine (HG.out _ HA.out).mono ?_
    rintro e w1 ⟨rfl, hb⟩
    go_wp2
    go_ret3
    exact ⟨ret_iib HV.out.1.symm HV.out.2.1.symm HV.out.2.2.symm, ((Below.refl _ _).alloc (Nat.le_refl _) _).trans (hb.mono (by simp))⟩
  | true =>
    have HG : Hid (∀ w, AntsAt w A l → Calls Try.prog 62 #[.agg #[.int .i64 L, .slice A l.length c]] w fun e w' => e = .returned (.bool true) ∧ Below w.heap.size w w') := fun w h => by
      rw [← hg]; exact isRod_any L A c l w h
    have hn := good_len hg
    cases hh : hasB l.length ant with
    | false =>
      have HV : Hid (foT L l ant = 0 ∧ foE L l ant = 0 ∧ foOk L l ant = false) := by show _ ∧ _ ∧ _; simp [foT, foE, foOk, hh]
      have HH := Lib.hid hh
      clear hg hh
      go_enter Try.func66, Try.ntmps66
      go_wp2_with fail
      refine (HG.out _ HA.out).mono ?_
      rintro e w1 ⟨rfl, hb⟩
      have c0 : w1.cell? ⟨w.heap.size, 0, none⟩ = some (.int .i64 L) := by rw [hb.cell (p := ⟨w.heap.size, 0, none⟩) (by simp)]; simp
      have c1 : w1.cell? ⟨w.heap.size, 1, none⟩ = some (.slice A l.length c) := by rw [hb.cell (p := ⟨w.heap.size, 1, none⟩) (by simp)]; simp
      have HB := Lib.hid (((Below.refl _ w).alloc (Nat.le_refl _) _).trans (hb.mono (by simp)))
      clear hb
      go_wp2_with fail
      refine (hasAnt_at L A l.length c ant false HH.out _).mono ?_
      rintro e w2 ⟨rfl, hb2⟩
      go_wp2
      go_ret3
      exact ⟨ret_iib HV.out.1.symm HV.out.2.1.symm HV.out.2.2.symm, HB.out.trans (hb2.mono HB.out.size)⟩
    | true =>
      have hok : foOk L l ant = true := by simp [foOk, hg, hh]
      have HH := Lib.hid hh
      have HV : Hid (foT L l ant = ft ((fallAs L l).getD ant.toNat (0, 0, 0)) ∧ foE L l ant = endOf ((fallAs L l).getD ant.toNat (0, 0, 0)) ∧ foOk L l ant = true) := by show _ ∧ _ ∧ _; simp [foT, foE, hok]
      simp only [hasB, Bool.and_eq_true, decide_eq_true_eq] at hh
      obtain ⟨h0, h1⟩ := hh
      obtain ⟨k, rfl⟩ := Int.eq_ofNat_of_zero_le h0
      simp only [Int.toNat_natCast] at HV
      have hk : k < l.length := by omega
      have hkf : k < (fallAs L l).length := by rw [fallAs_len hg]; exact hk
      have hx : (fallAs L l)[k]? = some ((fallAs L l).getD k (0, 0, 0)) := by rw [List.getD_eq_getElem?_getD, List.getElem?_eq_getElem hkf]; rfl
      have hgg := fallAs_good hg ((fallAs L l).getD k (0, 0, 0)) (by rw [List.getD_eq_getElem?_getD, List.getElem?_eq_getElem hkf]; exact List.getElem_mem hkf)
      have hfl : ((fallAs L l).length : Int) ≤ 16 := by rw [fallAs_len hg]; exact hn
      have hkf' : (k : Int) < ((fallAs L l).length : Int) := by omega
      generalize (fallAs L l).getD k (0, 0, 0) = x at *
      obtain ⟨x1, x2, x3⟩ := x
      have HX := Lib.hid hx
      have HGG := Lib.hid hgg
      obtain ⟨T, hT⟩ : ∃ T, ft (x1, x2, x3) = T := ⟨_, rfl⟩
      obtain ⟨E, hE⟩ : ∃ E, endOf (x1, x2, x3) = E := ⟨_, rfl⟩
      have HT := Lib.hid hT
      have HE := Lib.hid hE
      clear hg hok hx hgg hT hE
      go_enter Try.func66, Try.ntmps66
      go_wp2_with fail
      refine (HG.out _ HA.out).mono ?_
      rintro e w1 ⟨rfl, hb⟩
      have c0 : w1.cell? ⟨w.heap.size, 0, none⟩ = some (.int .i64 L) := by rw [hb.cell (p := ⟨w.heap.size, 0, none⟩) (by simp)]; simp
      have c1 : w1.cell? ⟨w.heap.size, 1, none⟩ = some (.slice A l.length c) := by rw [hb.cell (p := ⟨w.heap.size, 1, none⟩) (by simp)]; simp
      have HB := Lib.hid (((Below.refl _ w).alloc (Nat.le_refl _) _).trans (hb.mono (by simp)))
      have HA1 := Lib.hid (HA.out.below hb)
      clear hb
      go_wp2_with fail
      refine (hasAnt_at L A l.length c k true HH.out _).mono ?_
      rintro e w2 ⟨rfl, hb2⟩
      have c0 := Below.cell_some hb2 c0
      have c1 := Below.cell_some hb2 c1
      have HB2 := Lib.hid (HB.out.trans (hb2.mono HB.out.size))
      have HA2 := Lib.hid (HA1.out.below hb2)
      clear hb2
      go_wp2_with fail
      refine (fallAs_any L A c l _ hn HA2.out).mono ?_
      rintro e w3 ⟨A3, k3, rfl, ho3, hb3⟩
      obtain ⟨b, off, rfl, l0, hc⟩ := ho3.sl.trip_at hkf
      obtain ⟨a0, a1, a2⟩ := hc k _ HX.out
      simp only at a0 a1 a2
      have HB3 := Lib.hid (HB2.out.trans (hb3.mono HB2.out.size))
      clear hc ho3 hb3
      have f0 := Ext.cell (p := ⟨w3.heap.size, 0, none⟩) (v := .int .i64 x1) (W := (w3.alloc (Obj.cells #[Value.int IntKind.i64 x1, Value.int IntKind.i64 x2, Value.int IntKind.i64 x3] 102))) (by simp)
      have f1 := Ext.cell (p := ⟨w3.heap.size, 1, none⟩) (v := .int .i64 x2) (W := (w3.alloc (Obj.cells #[Value.int IntKind.i64 x1, Value.int IntKind.i64 x2, Value.int IntKind.i64 x3] 102))) (by simp)
      have f2 := Ext.cell (p := ⟨w3.heap.size, 2, none⟩) (v := .int .i64 x3) (W := (w3.alloc (Obj.cells #[Value.int IntKind.i64 x1, Value.int IntKind.i64 x2, Value.int IntKind.i64 x3] 102))) (by simp)
      go_wp2
      refine wp_region_ext (by kernel_rfl) (by kernel_rfl) ?_
      repeat (first | go_big_quiet_skip | (go_big_quiet_want; go_big_quiet_op; first | go_big_quiet_on | (apply Exists.intro; refine ⟨fun _ => ?_, ?_⟩; (first | (go_at_call 83; exact Ext.call (fallTime_at _ _ _ T HGG.out HT.out _)) | (go_at_call 84; exact Ext.call (end_at _ _ _ E HGG.out HE.out _))); go_big_quiet_on)))
      refine wpQuiet_nil ?_
      rintro _ ⟨x, rfl⟩
      go_wp2
      go_ret3
      exact ⟨ret_iib (by rw [HV.out.1, HT.out]) (by rw [HV.out.2.1, HE.out]) HV.out.2.2.symm, below_via HB3.out HB3.out.size x.h⟩

end Go.Proofs.Ytenpmjinbjlpbaa
