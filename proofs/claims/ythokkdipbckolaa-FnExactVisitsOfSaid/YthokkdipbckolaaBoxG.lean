/- The model's BoxAfter, HalfwayBox, BoxPlace, BoxWay, BoxMeetings. -/
import Derived.Test.YthokkdipbckolaaBoxH
import Derived.Test.YthokkdipbckolaaBoxR
import Derived.BigRegion
namespace Go.Proofs.Ythokkdipbckolaa
open Go.RowKit

/-- what is read of a run behind a time -/
theorem waFor_r (L : Int) (A : Option Addr) (c : Nat) (l : List (Int × Int)) (t : Int) (w : World) (hg : boxB L l = true) (ht : 0 ≤ t ∧ t ≤ 2000) (hA : AntsAt w A l) :
    Calls Try.prog 46 #[.agg #[.int .i64 L, .slice A l.length c], .int .i64 t] w fun e w' => ∃ b ab ca, e = .returned (.pointer (some ⟨b, 0, none⟩)) ∧ w'.cell? ⟨b, 1, none⟩ = some (.slice (some ⟨ab, 0, none⟩) l.length ca) ∧ w'.cell? ⟨b, 5, none⟩ = some (.int .i64 ((wtB L l l.length).map (gB L t)).sum) ∧ AntsOwn w' w.heap.size 53 (.slice (some ⟨ab, 0, none⟩) l.length ca) (bxA L t l) ∧ l.length ≤ ca ∧ Below w.heap.size w w' := by
  obtain ⟨T, rfl⟩ : ∃ T : Nat, t = T := ⟨t.toNat, by omega⟩
  refine (waFor_any L A c l T w hg (by omega) hA).mono ?_
  rintro e w' ⟨b, ab, gb, ca, cg, rfl, hr, hge, hb⟩
  have hm := runB_met (box_of hg) T
  have ho := hr.own
  rw [runB_bxA (box_of hg)] at ho
  refine ⟨b, ab, ca, rfl, ho.2.1, by rw [← hm]; exact hr.c5, ?_, hr.nc.1, hb⟩
  refine ⟨ho.2.2.1, ?_⟩
  rcases ho.2.2.2 with ⟨h1, _⟩ | ⟨g, cap, cur, hv, _, h3⟩
  · cases h1
  · refine .inr ⟨g, cap, cur, hv, ?_, h3⟩
    injection hv with hv _ _
    injection hv with hv
    injection hv with hv _ _
    omega
theorem waAsked_at (L : Int) (A : Option Addr) (c : Nat) (l : List (Int × Int)) (t : Int) (r : Bool) (hr : bfOk L l t = r) (w : World) (hA : AntsAt w A l) :
    Calls Try.prog 45 #[.agg #[.int .i64 L, .slice A l.length c], .int .i64 t] w fun e w' => e = .returned (.bool r) ∧ Below w.heap.size w w' := by
  subst hr
  have HA := Lib.hid (hA.alloc (Obj.cells #[Value.int IntKind.i64 L, Value.slice A l.length c] 29))
  clear hA
  cases hg : boxB L l with
  | false =>
    have HV : Hid (bfOk L l t = false) := by show _ = _; unfold bfOk; rw [hg]; rfl
    have HG : Hid (∀ w, AntsAt w A l → Calls Try.prog 39 #[.agg #[.int .i64 L, .slice A l.length c]] w fun e w' => e = .returned (.bool false) ∧ Below w.heap.size w w') := fun w h => by
      rw [← hg]; exact waGood_any L A c l w h
    clear hg
    go_enter Try.func45, Try.ntmps45
    go_wp2_with fail
    refine (HG.out _ HA.out).mono ?_
    rintro e w1 ⟨rfl, hb⟩
    go_wp2
    go_ret
    exact ⟨ret_bool HV.out.symm, ((Below.refl _ _).alloc (Nat.le_refl _) _).trans (hb.mono (by simp))⟩
  | true =>
    have HV : Hid (bfOk L l t = timeB t) := by show _ = _; unfold bfOk; rw [hg]; rfl
    have HG : Hid (∀ w, AntsAt w A l → Calls Try.prog 39 #[.agg #[.int .i64 L, .slice A l.length c]] w fun e w' => e = .returned (.bool true) ∧ Below w.heap.size w w') := fun w h => by
      rw [← hg]; exact waGood_any L A c l w h
    have HT : Hid (∀ w, Calls Try.prog 71 #[.int .i64 t] w fun e w' => e = .returned (.bool (timeB t)) ∧ Below w.heap.size w w') := fun w => roTime_at t _ rfl w
    clear hg
    generalize timeB t = tb at *
    go_enter Try.func45, Try.ntmps45
    go_wp2_with fail
    refine (HG.out _ HA.out).mono ?_
    rintro e w1 ⟨rfl, hb⟩
    have HB := Lib.hid (((Below.refl _ w).alloc (Nat.le_refl _) _).trans (hb.mono (by simp)))
    clear hb
    go_wp2_with fail
    refine (HT.out _).mono ?_
    rintro e w2 ⟨rfl, hb2⟩
    go_wp2
    go_ret
    exact ⟨ret_bool HV.out.symm, HB.out.trans (hb2.mono HB.out.size)⟩

set_option maxRecDepth 100000 in
set_option maxHeartbeats 2000000 in
theorem specBoxAfter_any (L : Int) (A : Option Addr) (c : Nat) (l : List (Int × Int)) (t : Int) (w : World) (_hcap : l.length ≤ c) (hA : AntsAt w A l) :
    Calls Try.prog 17 #[.agg #[.int .i64 L, .slice A l.length c], .int .i64 t] w fun e w' => ∃ A' n' c', e = .returned (.tuple #[.agg #[.int .i64 (bfL L l t), .slice A' n' c'], .bool (bfOk L l t)]) ∧ n' = (bfA L l t).length ∧ AntsOwn w' w.heap.size 53 (.slice A' n' c') (bfA L l t) ∧ Below w.heap.size w w' := by
  have HA := Lib.hid ((hA.alloc (Obj.cells #[Value.int IntKind.i64 L, Value.slice A l.length c] 29)).alloc (Obj.cells #[Value.int IntKind.i64 0, Value.slice none 0 0] 29))
  clear hA
  cases hg : bfOk L l t with
  | false =>
    have HV : Hid (bfL L l t = 0 ∧ bfA L l t = [] ∧ bfOk L l t = false) := by show _ ∧ _ ∧ _; simp [bfL, bfA, hg]
    have HG : Hid (∀ w, AntsAt w A l → Calls Try.prog 45 #[.agg #[.int .i64 L, .slice A l.length c], .int .i64 t] w fun e w' => e = .returned (.bool false) ∧ Below w.heap.size w w') := fun w h => waAsked_at L A c l t false hg w h
    clear hg
    go_enter Try.func17, Try.ntmps17
    go_wp2_with fail
    refine (HG.out _ HA.out).mono ?_
    rintro e w1 ⟨rfl, hb⟩
    have r0 : w1.cell? ⟨w.heap.size + 1, 0, none⟩ = some (.int .i64 0) := by rw [hb.cell (p := ⟨w.heap.size + 1, 0, none⟩) (by simp)]; simp [go_sem]
    have r1 : w1.cell? ⟨w.heap.size + 1, 1, none⟩ = some (.slice none 0 0) := by rw [hb.cell (p := ⟨w.heap.size + 1, 1, none⟩) (by simp)]; simp [go_sem]
    have f0 : w1.frozen? ⟨w.heap.size + 1, 0, none⟩ = false := by rw [hb.frozen (p := ⟨w.heap.size + 1, 0, none⟩) (by simp)]; simp [go_sem]
    have f1 : w1.frozen? ⟨w.heap.size + 1, 1, none⟩ = false := by rw [hb.frozen (p := ⟨w.heap.size + 1, 1, none⟩) (by simp)]; simp [go_sem]
    have HB := Lib.hid (((Below.refl _ w).alloc (Nat.le_refl _) (Obj.cells #[Value.int IntKind.i64 L, Value.slice A l.length c] 29)).alloc (by simp) (Obj.cells #[Value.int IntKind.i64 0, Value.slice none 0 0] 29) |>.trans (hb.mono (by simp; omega)))
    clear hb
    go_wp2
    refine bodyPost_ret (v := .tuple #[.agg #[.int .i64 0, .slice none 0 0], .bool false]) (by simp [results, Try.results17, go_sem, r0, r1]) rfl ⟨none, 0, 0, ret_rod HV.out.1.symm rfl rfl, by rw [HV.out.2.1]; rfl, by rw [HV.out.2.1]; exact SlOwn.nil pairS _ _ _, ?_⟩
    exact (HB.out.setCell (by simp) _).setCell (by simp) _
  | true =>
    have HV : Hid (bfL L l t = L ∧ bfA L l t = bxA L t l ∧ bfOk L l t = true) := by show _ ∧ _ ∧ _; simp [bfL, bfA, hg]
    have HG : Hid (∀ w, AntsAt w A l → Calls Try.prog 45 #[.agg #[.int .i64 L, .slice A l.length c], .int .i64 t] w fun e w' => e = .returned (.bool true) ∧ Below w.heap.size w w') := fun w h => waAsked_at L A c l t true hg w h
    have hgt : boxB L l = true ∧ timeB t = true := by unfold bfOk at hg; rwa [Bool.and_eq_true] at hg
    have htl := timeB_le hgt.2
    have hbx := hgt.1
    clear hgt
    have HR : Hid (∀ w, AntsAt w A l → Calls Try.prog 46 #[.agg #[.int .i64 L, .slice A l.length c], .int .i64 t] w fun e w' => ∃ b ab ca, e = .returned (.pointer (some ⟨b, 0, none⟩)) ∧ w'.cell? ⟨b, 1, none⟩ = some (.slice (some ⟨ab, 0, none⟩) l.length ca) ∧ AntsOwn w' w.heap.size 53 (.slice (some ⟨ab, 0, none⟩) l.length ca) (bxA L t l) ∧ Below w.heap.size w w') := fun w h => by
      refine (waFor_r L A c l t w hbx htl h).mono ?_
      rintro e w' ⟨b, ab, ca, he, h1, _, h3, _, h5⟩
      exact ⟨b, ab, ca, he, h1, h3, h5⟩
    clear hg hbx
    go_enter Try.func17, Try.ntmps17
    go_wp2_with fail
    refine (HG.out _ HA.out).mono ?_
    rintro e w2 ⟨rfl, hb⟩
    have r0 : w2.cell? ⟨w.heap.size + 1, 0, none⟩ = some (.int .i64 0) := by rw [hb.cell (p := ⟨w.heap.size + 1, 0, none⟩) (by simp)]; simp [go_sem]
    have r1 : w2.cell? ⟨w.heap.size + 1, 1, none⟩ = some (.slice none 0 0) := by rw [hb.cell (p := ⟨w.heap.size + 1, 1, none⟩) (by simp)]; simp [go_sem]
    have f0 : w2.frozen? ⟨w.heap.size + 1, 0, none⟩ = false := by rw [hb.frozen (p := ⟨w.heap.size + 1, 0, none⟩) (by simp)]; simp [go_sem]
    have f1 : w2.frozen? ⟨w.heap.size + 1, 1, none⟩ = false := by rw [hb.frozen (p := ⟨w.heap.size + 1, 1, none⟩) (by simp)]; simp [go_sem]
    have hs : w.heap.size + 1 < w2.heap.size := by have := hb.size; simp at this; omega
    have HB := Lib.hid (((Below.refl _ w).alloc (Nat.le_refl _) (Obj.cells #[Value.int IntKind.i64 L, Value.slice A l.length c] 29)).alloc (by simp) (Obj.cells #[Value.int IntKind.i64 0, Value.slice none 0 0] 29) |>.trans (hb.mono (by simp; omega)))
    have c0 : w2.cell? ⟨w.heap.size, 0, none⟩ = some (.int .i64 L) := by rw [hb.cell (p := ⟨w.heap.size, 0, none⟩) (by simp; omega)]; simp [go_sem]
    have c1 : w2.cell? ⟨w.heap.size, 1, none⟩ = some (.slice A l.length c) := by rw [hb.cell (p := ⟨w.heap.size, 1, none⟩) (by simp; omega)]; simp [go_sem]
    have HA2 := Lib.hid (HA.out.below hb)
    clear hb
    have HK : Hid (∀ Q : Ending → World → Prop, (∀ b ab ca w', w'.cell? ⟨b, 1, none⟩ = some (.slice (some ⟨ab, 0, none⟩) l.length ca) → AntsOwn w' w2.heap.size 53 (.slice (some ⟨ab, 0, none⟩) l.length ca) (bxA L t l) → Below w2.heap.size w2 w' → Q (.returned (.pointer (some ⟨b, 0, none⟩))) w') → Calls Try.prog 46 #[.agg #[.int .i64 L, .slice A l.length c], .int .i64 t] w2.drew Q) := fun Q hQ => by
      refine (HR.out w2.drew (HA2.out.below ((Below.refl _ _).drew))).mono ?_
      rintro e w' ⟨b, ab, ca, rfl, h1, ho, hb⟩
      exact hQ b ab ca w' h1 ho (below_drew hb)
    go_wp2
    go_region_with (go_at_call 46; refine HK.out _ ?_; intro b4 A4 k4 w4 hc4 ho4 hb4; have c0 := Below.cell_some hb4 c0; have c1 := Below.cell_some hb4 c1; have r0 := Below.cell_some hb4 r0; have r1 := Below.cell_some hb4 r1; have f0 := (hb4.frozen (p := ⟨w.heap.size + 1, 0, none⟩) hs).trans f0; have f1 := (hb4.frozen (p := ⟨w.heap.size + 1, 1, none⟩) hs).trans f1; have HO4 := Lib.hid ho4; have HB4 := Lib.hid (HB.out.trans (hb4.mono HB.out.size)); have hs4 : w.heap.size + 1 < w4.heap.size := Nat.lt_of_lt_of_le hs hb4.size; have HS2 := Lib.hid HB.out.size; clear ho4 hb4)
    all_goals (
      go_wp2
      refine bodyPost_ret (v := .tuple #[.agg #[.int .i64 L, .slice (some ⟨A4, 0, none⟩) l.length k4], .bool true]) (by simp [results, Try.results17, go_sem, r0, r1]) rfl ⟨some ⟨A4, 0, none⟩, l.length, k4, ret_rod HV.out.1.symm rfl rfl, by rw [HV.out.2.1, bxA_len], ?_, ?_⟩
      · rw [HV.out.2.1]
        exact ownsRow_base (ownsRow_setCell_below (ownsRow_setCell_below HO4.out (by simp; omega) _) (by simp; omega) _) HS2.out
      · exact (HB4.out.setCell (by simp) _).setCell (by simp) _)

set_option maxRecDepth 100000 in
set_option maxHeartbeats 2000000 in
theorem specHalfwayBox_any (L : Int) (A : Option Addr) (c : Nat) (l : List (Int × Int)) (w : World) (_hcap : l.length ≤ c) (hA : AntsAt w A l) :
    Calls Try.prog 29 #[.agg #[.int .i64 L, .slice A l.length c]] w fun e w' => ∃ A' n' c', e = .returned (.tuple #[.agg #[.int .i64 (bhL L l), .slice A' n' c'], .bool (boxB L l)]) ∧ n' = (bhA L l).length ∧ AntsOwn w' w.heap.size 53 (.slice A' n' c') (bhA L l) ∧ Below w.heap.size w w' := by
  have HA := Lib.hid ((hA.alloc (Obj.cells #[Value.int IntKind.i64 L, Value.slice A l.length c] 29)).alloc (Obj.cells #[Value.int IntKind.i64 0, Value.slice none 0 0] 29))
  clear hA
  cases hg : boxB L l with
  | false =>
    have HV : Hid (bhL L l = 0 ∧ bhA L l = [] ∧ boxB L l = false) := by show _ ∧ _ ∧ _; simp [bhL, bhA, hg]
    have HG : Hid (∀ w, AntsAt w A l → Calls Try.prog 39 #[.agg #[.int .i64 L, .slice A l.length c]] w fun e w' => e = .returned (.bool false) ∧ Below w.heap.size w w') := fun w h => by
      rw [← hg]; exact waGood_any L A c l w h
    clear hg
    go_enter Try.func29, Try.ntmps29
    go_wp2_with fail
    refine (HG.out _ HA.out).mono ?_
    rintro e w1 ⟨rfl, hb⟩
    have r0 : w1.cell? ⟨w.heap.size + 1, 0, none⟩ = some (.int .i64 0) := by rw [hb.cell (p := ⟨w.heap.size + 1, 0, none⟩) (by simp)]; simp [go_sem]
    have r1 : w1.cell? ⟨w.heap.size + 1, 1, none⟩ = some (.slice none 0 0) := by rw [hb.cell (p := ⟨w.heap.size + 1, 1, none⟩) (by simp)]; simp [go_sem]
    have f0 : w1.frozen? ⟨w.heap.size + 1, 0, none⟩ = false := by rw [hb.frozen (p := ⟨w.heap.size + 1, 0, none⟩) (by simp)]; simp [go_sem]
    have f1 : w1.frozen? ⟨w.heap.size + 1, 1, none⟩ = false := by rw [hb.frozen (p := ⟨w.heap.size + 1, 1, none⟩) (by simp)]; simp [go_sem]
    have HB := Lib.hid (((Below.refl _ w).alloc (Nat.le_refl _) (Obj.cells #[Value.int IntKind.i64 L, Value.slice A l.length c] 29)).alloc (by simp) (Obj.cells #[Value.int IntKind.i64 0, Value.slice none 0 0] 29) |>.trans (hb.mono (by simp; omega)))
    clear hb
    go_wp2
    refine bodyPost_ret (v := .tuple #[.agg #[.int .i64 0, .slice none 0 0], .bool false]) (by simp [results, Try.results29, go_sem, r0, r1]) rfl ⟨none, 0, 0, ret_rod HV.out.1.symm rfl rfl, by rw [HV.out.2.1]; rfl, by rw [HV.out.2.1]; exact SlOwn.nil pairS _ _ _, ?_⟩
    exact (HB.out.setCell (by simp) _).setCell (by simp) _
  | true =>
    have HV : Hid (bhL L l = L ∧ bhA L l = bxA L L l ∧ boxB L l = true) := by show _ ∧ _ ∧ _; simp [bhL, bhA, hg]
    have HG : Hid (∀ w, AntsAt w A l → Calls Try.prog 39 #[.agg #[.int .i64 L, .slice A l.length c]] w fun e w' => e = .returned (.bool true) ∧ Below w.heap.size w w') := fun w h => by
      rw [← hg]; exact waGood_any L A c l w h
    have hl := boxB_len hg
    have htl : 0 ≤ L ∧ L ≤ 2000 := by omega
    have hbx := hg
    have HR : Hid (∀ w, AntsAt w A l → Calls Try.prog 46 #[.agg #[.int .i64 L, .slice A l.length c], .int .i64 L] w fun e w' => ∃ b ab ca, e = .returned (.pointer (some ⟨b, 0, none⟩)) ∧ w'.cell? ⟨b, 1, none⟩ = some (.slice (some ⟨ab, 0, none⟩) l.length ca) ∧ AntsOwn w' w.heap.size 53 (.slice (some ⟨ab, 0, none⟩) l.length ca) (bxA L L l) ∧ Below w.heap.size w w') := fun w h => by
      refine (waFor_r L A c l L w hbx htl h).mono ?_
      rintro e w' ⟨b, ab, ca, he, h1, _, h3, _, h5⟩
      exact ⟨b, ab, ca, he, h1, h3, h5⟩
    clear hg hbx
    go_enter Try.func29, Try.ntmps29
    go_wp2_with fail
    refine (HG.out _ HA.out).mono ?_
    rintro e w2 ⟨rfl, hb⟩
    have r0 : w2.cell? ⟨w.heap.size + 1, 0, none⟩ = some (.int .i64 0) := by rw [hb.cell (p := ⟨w.heap.size + 1, 0, none⟩) (by simp)]; simp [go_sem]
    have r1 : w2.cell? ⟨w.heap.size + 1, 1, none⟩ = some (.slice none 0 0) := by rw [hb.cell (p := ⟨w.heap.size + 1, 1, none⟩) (by simp)]; simp [go_sem]
    have f0 : w2.frozen? ⟨w.heap.size + 1, 0, none⟩ = false := by rw [hb.frozen (p := ⟨w.heap.size + 1, 0, none⟩) (by simp)]; simp [go_sem]
    have f1 : w2.frozen? ⟨w.heap.size + 1, 1, none⟩ = false := by rw [hb.frozen (p := ⟨w.heap.size + 1, 1, none⟩) (by simp)]; simp [go_sem]
    have hs : w.heap.size + 1 < w2.heap.size := by have := hb.size; simp at this; omega
    have HB := Lib.hid (((Below.refl _ w).alloc (Nat.le_refl _) (Obj.cells #[Value.int IntKind.i64 L, Value.slice A l.length c] 29)).alloc (by simp) (Obj.cells #[Value.int IntKind.i64 0, Value.slice none 0 0] 29) |>.trans (hb.mono (by simp; omega)))
    have c0 : w2.cell? ⟨w.heap.size, 0, none⟩ = some (.int .i64 L) := by rw [hb.cell (p := ⟨w.heap.size, 0, none⟩) (by simp; omega)]; simp [go_sem]
    have c1 : w2.cell? ⟨w.heap.size, 1, none⟩ = some (.slice A l.length c) := by rw [hb.cell (p := ⟨w.heap.size, 1, none⟩) (by simp; omega)]; simp [go_sem]
    have HA2 := Lib.hid (HA.out.below hb)
    clear hb
    have HK : Hid (∀ Q : Ending → World → Prop, (∀ b ab ca w', w'.cell? ⟨b, 1, none⟩ = some (.slice (some ⟨ab, 0, none⟩) l.length ca) → AntsOwn w' w2.heap.size 53 (.slice (some ⟨ab, 0, none⟩) l.length ca) (bxA L L l) → Below w2.heap.size w2 w' → Q (.returned (.pointer (some ⟨b, 0, none⟩))) w') → Calls Try.prog 46 #[.agg #[.int .i64 L, .slice A l.length c], .int .i64 L] w2.drew Q) := fun Q hQ => by
      refine (HR.out w2.drew (HA2.out.below ((Below.refl _ _).drew))).mono ?_
      rintro e w' ⟨b, ab, ca, rfl, h1, ho, hb⟩
      exact hQ b ab ca w' h1 ho (below_drew hb)
    go_wp2
    go_region_with (go_at_call 46; refine HK.out _ ?_; intro b4 A4 k4 w4 hc4 ho4 hb4; have c0 := Below.cell_some hb4 c0; have c1 := Below.cell_some hb4 c1; have r0 := Below.cell_some hb4 r0; have r1 := Below.cell_some hb4 r1; have f0 := (hb4.frozen (p := ⟨w.heap.size + 1, 0, none⟩) hs).trans f0; have f1 := (hb4.frozen (p := ⟨w.heap.size + 1, 1, none⟩) hs).trans f1; have HO4 := Lib.hid ho4; have HB4 := Lib.hid (HB.out.trans (hb4.mono HB.out.size)); have hs4 : w.heap.size + 1 < w4.heap.size := Nat.lt_of_lt_of_le hs hb4.size; have HS2 := Lib.hid HB.out.size; clear ho4 hb4)
    all_goals (
      go_wp2
      refine bodyPost_ret (v := .tuple #[.agg #[.int .i64 L, .slice (some ⟨A4, 0, none⟩) l.length k4], .bool true]) (by simp [results, Try.results29, go_sem, r0, r1]) rfl ⟨some ⟨A4, 0, none⟩, l.length, k4, ret_rod HV.out.1.symm rfl rfl, by rw [HV.out.2.1, bxA_len], ?_, ?_⟩
      · rw [HV.out.2.1]
        exact ownsRow_base (ownsRow_setCell_below (ownsRow_setCell_below HO4.out (by simp; omega) _) (by simp; omega) _) HS2.out
      · exact (HB4.out.setCell (by simp) _).setCell (by simp) _)

end Go.Proofs.Ythokkdipbckolaa
