/- The model's LooksSameAfter and ComesBackAfter. -/
import Derived.Test.YtdoikeglaolipaaSameM
import Derived.Test.YtdoikeglaolipaaCrewQ
namespace Go.Proofs.Ytdoikeglaolipaa
open Go.RowKit

theorem antNeq (x y : Int × Int) (r : Bool) (hr : decide (x = y) = r) (w : World) :
    (binOp .neq 59 (.agg #[.int .i64 x.1, .int .i64 x.2]) (.agg #[.int .i64 y.1, .int .i64 y.2])).run Try.prog w = .ok (.bool (!r)) w := by
  rw [run_neq_struct, antIn_eq 9998, hr]
  rfl

set_option maxRecDepth 100000 in
set_option maxHeartbeats 1000000 in
theorem ciSame_any (A B : Option Addr) (c d n : Nat) (l m : List (Int × Int)) (w : World) (hl : l.length = n) (hm : m.length = n) (hn : n ≤ 16) (hA : AntsAt w A l) (hB : AntsAt w B m) :
    Calls Try.prog 66 #[.slice A n c, .slice B n d] w fun e w' => e = .returned (.bool (decide (l = m))) ∧ Below w.heap.size w w' := by
  have HA := Lib.hid hA
  have HB := Lib.hid hB
  have HL := Lib.hid hl
  have HM := Lib.hid hm
  clear hA hB hl hm
  go_enter Try.func66, Try.ntmps66
  go_wp2
  go_loopw [5, 8] (fun _ i wr => ∃ k : Nat, k ≤ n ∧ i = .int .i64 k ∧ Below w.heap.size w wr ∧ ∀ j, j < k → l.getD j (0, 0) = m.getD j (0, 0))
    (fun _ i _ => n - (intOf i).toNat)
  case atStart => exact ⟨0, Nat.zero_le _, rfl, Below.refl _ _, fun j hj => absurd hj (by omega)⟩
  case round =>
    obtain ⟨k, hk, rfl, hb, hall⟩ := hrel
    have HBr := Lib.hid hb
    have HAL := Lib.hid hall
    have HAr := Lib.hid (HA.out.below hb)
    have HBB := Lib.hid (HB.out.below hb)
    clear hall hb
    by_cases hlt : k < n
    · have hkl : k < l.length := by rw [HL.out]; exact hlt
      have hkm : k < m.length := by rw [HM.out]; exact hlt
      obtain ⟨b, off, rfl, l0, hc⟩ := HAr.out.at_ hkl
      obtain ⟨b2, off2, rfl, l2, hc2⟩ := HBB.out.at_ hkm
      obtain ⟨a0, a1⟩ := hc k hkl
      obtain ⟨p0, p1⟩ := hc2 k hkm
      have HNE : Hid (l.getD k (0, 0) = m.getD k (0, 0) → ∀ j, j < k + 1 → l.getD j (0, 0) = m.getD j (0, 0)) := fun h j hj => by
        by_cases hjk : j < k
        · exact HAL.out j hjk
        · obtain rfl : j = k := by omega
          exact h
      have HDF : Hid (¬ l.getD k (0, 0) = m.getD k (0, 0) → decide (l = m) = false) := fun h => decide_eq_false fun e => h (by rw [e])
      clear hc hc2
      generalize l.getD k (0, 0) = x at *
      generalize m.getD k (0, 0) = y at *
      have hki : (k : Int) < (n : Int) := by omega
      have hk0 : (0 : Int) ≤ (k : Int) := by omega
      have d0 : wr.drew.cell? ⟨b, off + k * 2, none⟩ = some (.int .i64 x.1) := a0
      have d1 : wr.drew.cell? ⟨b, off + k * 2 + 1, none⟩ = some (.int .i64 x.2) := a1
      have d2 : wr.drew.cell? ⟨b2, off2 + k * 2, none⟩ = some (.int .i64 y.1) := p0
      have d3 : wr.drew.cell? ⟨b2, off2 + k * 2 + 1, none⟩ = some (.int .i64 y.2) := p1
      by_cases hxy : x = y
      · have hneq := fun w => antNeq x y true (decide_eq_true hxy) w
        have HXY := Lib.hid (HNE.out hxy)
        clear hxy HNE HDF
        go_wp2
        go_region_held3 (fun w' => w'.cell? ⟨b, off + k * 2, none⟩ = some (.int .i64 x.1) ∧ w'.cell? ⟨b, off + k * 2 + 1, none⟩ = some (.int .i64 x.2) ∧ w'.cell? ⟨b2, off2 + k * 2, none⟩ = some (.int .i64 y.1) ∧ w'.cell? ⟨b2, off2 + k * 2 + 1, none⟩ = some (.int .i64 y.2))
          (first | exact ⟨d0, d1, d2, d3⟩ | go_keep)
          (first | fail)
        all_goals (
          go_wp2
          go_roundw
          case rel => exact ⟨k + 1, by omega, by go_num, HBr.out.drew, HXY.out⟩
          case measure => (simp [intOf]; omega))
      · have hneq := fun w => antNeq x y false (decide_eq_false hxy) w
        have HV := Lib.hid (HDF.out hxy)
        clear hxy HNE HDF
        go_wp2
        go_region_held3 (fun w' => w'.cell? ⟨b, off + k * 2, none⟩ = some (.int .i64 x.1) ∧ w'.cell? ⟨b, off + k * 2 + 1, none⟩ = some (.int .i64 x.2) ∧ w'.cell? ⟨b2, off2 + k * 2, none⟩ = some (.int .i64 y.1) ∧ w'.cell? ⟨b2, off2 + k * 2 + 1, none⟩ = some (.int .i64 y.2))
          (first | exact ⟨d0, d1, d2, d3⟩ | go_keep)
          (first | fail)
        all_goals (
          go_wp2
          go_ret
          exact ⟨ret_bool HV.out.symm, HBr.out.drew⟩)
    · obtain rfl : k = n := by omega
      have HV : Hid (decide (l = m) = true) := by
        show _ = _
        refine decide_eq_true (List.ext_getElem (by rw [HL.out, HM.out]) fun i h1 h2 => ?_)
        have := HAL.out i (by rw [← HL.out]; exact h1)
        rwa [getD_lt' h1, getD_lt' h2] at this
      go_wp2
      go_ret
      exact ⟨ret_bool HV.out.symm, HBr.out⟩

set_option maxRecDepth 100000 in
set_option maxHeartbeats 2000000 in
theorem ciBack_any (L : Int) (A : Option Addr) (c : Nat) (l : List (Int × Int)) (v : Nat) (w : World) (hg : ciB L l = true) (hv1 : 1 ≤ v) (hv2 : v ≤ 4000) (hP : backP L l v = true) (hN : ∀ i, 1 ≤ i → i < v → backP L l i = false) (hA : AntsAt w A l) :
    Calls Try.prog 52 #[.agg #[.int .i64 L, .slice A l.length c], .bool false] w fun e w' => e = .returned (.int .i64 (2 * (v : Int))) ∧ Below w.heap.size w w' := by
  obtain ⟨W0, hW0⟩ : ∃ W0, W0 = w.alloc (Obj.cells #[Value.int IntKind.i64 L, Value.slice A l.length c] 28) := ⟨_, rfl⟩
  have HB0 : Hid (Below w.heap.size w W0) := by show Below _ _ _; rw [hW0]; exact (Below.refl _ w).alloc (Nat.le_refl _) _
  have hs0 : W0.heap.size = w.heap.size + 1 := by rw [hW0]; simp
  have c0 : W0.cell? ⟨w.heap.size, 0, none⟩ = some (.int .i64 L) := by rw [hW0]; simp
  have c1 : W0.cell? ⟨w.heap.size, 1, none⟩ = some (.slice A l.length c) := by rw [hW0]; simp
  have HA := Lib.hid (hA.below HB0.out)
  have HST := Lib.hid (ciStart_any L A c l W0 hg HA.out)
  obtain ⟨hL0, hL1, _, hl16⟩ := ciB_len hg
  have HML := Lib.hid (runC_le (circ_of hg) hl16)
  have HGL := Lib.hid (runG_le (circ_of hg))
  have HRL := Lib.hid (fun t => runC_len (circ_of hg) t)
  have HP := Lib.hid hP
  have HN := Lib.hid hN
  have HAW := Lib.hid hA
  clear hA hg hP hN
  go_enter Try.func52, Try.ntmps52
  go_wp2_with fail
  generalize hQ : World.alloc w _ = W1
  obtain rfl : W1 = W0 := by rw [hW0, ← hQ]
  clear hQ hW0
  refine HST.out.mono ?_
  rintro e w1 ⟨b, ab, gb, ca, cg, rfl, hr, hge, hb⟩
  have HR := Lib.hid hr
  have HG : Hid (w.heap.size + 1 ≤ b ∧ w.heap.size + 1 ≤ ab ∧ w.heap.size + 1 ≤ gb) := by rw [hs0] at hge; exact hge
  have HB := Lib.hid (HB0.out.trans (hb.mono (by omega)))
  have c0 := Below.cell_some hb c0
  have c1 := Below.cell_some hb c1
  have HA1 := Lib.hid (HA.out.below hb)
  have hs1 : w.heap.size + 1 ≤ w1.heap.size := by have := hb.size; omega
  clear hr hge hb HST
  go_wp2
  go_loopw [6] (fun tm wr => ∃ j : Nat, j < v ∧ tm = .int .i64 (2 * ((j : Int) + 1)) ∧ RunAt wr b ab 0 gb 0 l.length ca cg L (runC L l (2 * j)).1 (runC L l (2 * j)).2 (runG L l (2 * j)) ∧ Below (w.heap.size + 1) w1 wr)
    (fun tm _ => (2 * (v : Int) - intOf tm).toNat)
  case atStart => exact ⟨0, by omega, by simp, HR.out, Below.refl _ _⟩
  case round =>
    obtain ⟨j, hj, rfl, hra, hbr⟩ := hrel
    obtain ⟨W2, rfl⟩ : ∃ W, W = wr := ⟨_, rfl⟩
    have HBR := Lib.hid hbr
    have c0 := (hbr.cell (p := ⟨w.heap.size, 0, none⟩) (by simp)).trans c0
    have c1 := (hbr.cell (p := ⟨w.heap.size, 1, none⟩) (by simp)).trans c1
    have HRA := Lib.hid hra
    clear hra hbr HR
    have HGB : Hid (∀ (t : Nat), t ≤ 8001 → ∀ (k : Nat) (g : Int), (runG L l t)[k]? = some g → -1000000 ≤ g ∧ g ≤ 1000000) := fun t ht k g hk => by have := HGL.out t k g hk; omega
    have hm1 : (runC L l (2 * j)).2 ≤ 1000000000 := by have := HML.out (2 * j); omega
    have hm2 : (runC L l (2 * j + 1)).2 ≤ 1000000000 := by have := HML.out (2 * j + 1); omega
    have HS1 := Lib.hid (step_any (w.heap.size + 1) b ab 0 gb 0 l.length ca cg L (runC L l (2 * j)).1 (runC L l (2 * j)).2 (runG L l (2 * j)) W2 HRA.out (HGB.out (2 * j) (by omega)) ⟨hL0, hL1⟩ hl16 hm1 HG.out)
    go_wp2_with fail
    refine HS1.out.mono ?_
    rintro e w2 ⟨q1, rfl, hr2, hb2⟩
    have HR2 : Hid (RunAt w2 b ab 0 gb 0 l.length ca cg L (runC L l (2 * j + 1)).1 (runC L l (2 * j + 1)).2 (runG L l (2 * j + 1))) := hr2
    have HB2 := Lib.hid (HBR.out.trans hb2)
    have c0 := (hb2.cell (p := ⟨w.heap.size, 0, none⟩) (by simp)).trans c0
    have c1 := (hb2.cell (p := ⟨w.heap.size, 1, none⟩) (by simp)).trans c1
    clear hr2 hb2 HS1 HRA
    have HS2 := Lib.hid (step_any (w.heap.size + 1) b ab 0 gb 0 l.length ca cg L (runC L l (2 * j + 1)).1 (runC L l (2 * j + 1)).2 (runG L l (2 * j + 1)) w2 HR2.out (HGB.out (2 * j + 1) (by omega)) ⟨hL0, hL1⟩ hl16 hm2 HG.out)
    go_wp2_with fail
    refine HS2.out.mono ?_
    rintro e w3 ⟨q2, rfl, hr3, hb3⟩
    have HR3 : Hid (RunAt w3 b ab 0 gb 0 l.length ca cg L (runC L l (2 * (j + 1))).1 (runC L l (2 * (j + 1))).2 (runG L l (2 * (j + 1)))) := hr3
    have HB3 := Lib.hid (HB2.out.trans hb3)
    have c0 := (hb3.cell (p := ⟨w.heap.size, 0, none⟩) (by simp)).trans c0
    have c1 := (hb3.cell (p := ⟨w.heap.size, 1, none⟩) (by simp)).trans c1
    clear hr3 hb3 HS2 HR2
    obtain ⟨A3, ra, ha3, hn3⟩ := HR3.out.slice
    have HBW := Lib.hid (HB.out.trans (HB3.out.mono (Nat.le_succ _)))
    have HAW3 := Lib.hid (HAW.out.below HBW.out)
    have HA3 := Lib.hid ha3
    have HL3 := Lib.hid (HRL.out (2 * (j + 1)))
    have HSM : Hid (∀ W, AntsAt W A3 (runC L l (2 * (j + 1))).1 → AntsAt W A l → Calls Try.prog 66 #[.slice A3 l.length ca, .slice A l.length c] W fun e w' => e = .returned (.bool (backP L l (j + 1))) ∧ Below W.heap.size W w') := fun W h1 h2 => ciSame_any A3 A ca c l.length _ l W HL3.out rfl hl16 h1 h2
    have hlast : j + 1 < v → backP L l (j + 1) = false := fun h => HN.out (j + 1) (by omega) h
    have hend : backP L l (j + 1) = false → j + 1 < v := fun h => by
      refine Classical.byContradiction fun hn => ?_
      have : j + 1 = v := by omega
      rw [this, HP.out] at h
      cases h
    have HLAST := Lib.hid hlast
    have HEND := Lib.hid hend
    clear hlast hend ha3 hn3
    have HBL : Hid (w.heap.size + 1 ≤ w3.heap.size) := Nat.le_trans hs1 HB3.out.size
    have hw2 : IntKind.i64.wrap (2 * ((j : Int) + 1) + 2) = 2 * ((j : Int) + 1) + 2 := IntWalk.i64_in _ (by omega)
    have f1 := Ext.cell (W := w3) c1
    have fr := Ext.cell (W := w3) ra
    have HXA : Hid (∀ x : Ext w3, AntsAt x.w A3 (runC L l (2 * (j + 1))).1 ∧ AntsAt x.w A l) := fun x => ⟨HA3.out.below x.h, HAW3.out.below x.h⟩
    cases hbk : backP L l (j + 1) with
    | true =>
      have hvj : v = j + 1 := by
        refine Classical.byContradiction fun hn => ?_
        have h1 := HLAST.out (by omega)
        rw [hbk] at h1
        cases h1
      rw [hbk] at HSM
      subst hvj
      clear hbk c0 c1 ra
      go_wp2
      refine wp_region_ext (by kernel_rfl) (by kernel_rfl) ?_
      repeat (first | go_big_quiet_skip | (go_big_quiet_want; go_big_quiet_op; first | go_big_quiet_on | (apply Exists.intro; refine ⟨fun x => ?_, ?_⟩; (go_at_call 66; exact Ext.call (HSM.out _ (HXA.out _).1 (HXA.out _).2)); go_big_quiet_on)))
      refine wpQuiet_nil ?_
      rintro _ ⟨x, rfl⟩
      go_wp2
      go_ret
      exact ⟨ret_int (by push_cast; omega), HBW.out.trans (x.h.mono HBW.out.size)⟩
    | false =>
      have hvj := HEND.out hbk
      rw [hbk] at HSM
      clear hbk c0 c1 ra
      have HR4 : Hid (∀ x : Ext w3, RunAt x.w b ab 0 gb 0 l.length ca cg L (runC L l (2 * (j + 1))).1 (runC L l (2 * (j + 1))).2 (runG L l (2 * (j + 1)))) := fun x => HR3.out.below x.h
      go_wp2
      refine wp_region_ext (by kernel_rfl) (by kernel_rfl) ?_
      repeat (first | go_big_quiet_skip | (go_big_quiet_want; go_big_quiet_op; first | go_big_quiet_on | (apply Exists.intro; refine ⟨fun x => ?_, ?_⟩; (go_at_call 66; exact Ext.call (HSM.out _ (HXA.out _).1 (HXA.out _).2)); go_big_quiet_on)))
      refine wpQuiet_nil ?_
      rintro _ ⟨x, rfl⟩
      go_wp2
      go_roundw
      case rel => exact ⟨j + 1, hvj, by first | rfl | go_num | (congr 1; push_cast; omega), HR4.out x, HB3.out.trans (x.h.mono HBL.out)⟩
      case measure => (simp [intOf]; omega)
end Go.Proofs.Ytdoikeglaolipaa
