/- The model's LooksSameAfter. -/
import Derived.Test.YtdoikeglaolipaaBackS
import Derived.Test.YtdoikeglaolipaaSameI
namespace Go.Proofs.Ytdoikeglaolipaa
open Go.RowKit

theorem back_same {L : Int} {l : List (Int × Int)} (h : ciB L l = true) (j : Nat) (hb : backP L l j = true) : sameP L l j = true := by
  have hR : (runC L l (2 * j)).1 = l := of_decide_eq_true hb
  have h1 := run_told (circ_of h) (2 * j)
  rw [hR, ciB_srt h] at h1
  exact decide_eq_true h1.symm

set_option maxRecDepth 100000 in
set_option maxHeartbeats 2000000 in
theorem ciBackT_any (L : Int) (A : Option Addr) (c : Nat) (l : List (Int × Int)) (v : Nat) (w : World) (hg : ciB L l = true) (hv1 : 1 ≤ v) (hv2 : v ≤ 4000) (hP : sameP L l v = true) (hN : ∀ i, 1 ≤ i → i < v → sameP L l i = false) (hA : AntsAt w A l) :
    Calls Try.prog 52 #[.agg #[.int .i64 L, .slice A l.length c], .bool true] w fun e w' => e = .returned (.int .i64 (2 * (v : Int))) ∧ Below w.heap.size w w' := by
  obtain ⟨W0, hW0⟩ : ∃ W0, W0 = w.alloc (Obj.cells #[Value.int IntKind.i64 L, Value.slice A l.length c] 28) := ⟨_, rfl⟩
  have HB0 : Hid (Below w.heap.size w W0) := by show Below _ _ _; rw [hW0]; exact (Below.refl _ w).alloc (Nat.le_refl _) _
  have hs0 : W0.heap.size = w.heap.size + 1 := by rw [hW0]; simp
  have c0 : W0.cell? ⟨w.heap.size, 0, none⟩ = some (.int .i64 L) := by rw [hW0]; simp
  have c1 : W0.cell? ⟨w.heap.size, 1, none⟩ = some (.slice A l.length c) := by rw [hW0]; simp
  have HA := Lib.hid (hA.below HB0.out)
  have HST := Lib.hid (ciStart_any L A c l W0 hg HA.out)
  obtain ⟨hL0, hL1, _, hl16⟩ := ciB_len hg
  have HML := Lib.hid (runC_le (circ_of hg) hl16)
  have HGL := Lib.hid (runG_le (circ_of hg))
  have HRL := Lib.hid (fun t => runC_len (circ_of hg) t)
  have HRT := Lib.hid (fun t => run_told (circ_of hg) t)
  have HBS := Lib.hid (back_same hg)
  have HP := Lib.hid hP
  have HN := Lib.hid hN
  have HAW := Lib.hid hA
  clear hA hg hP hN
  go_enter Try.func52, Try.ntmps52
  go_wp2_with fail
  generalize hQ : World.alloc w _ = W1
  obtain rfl : W1 = W0 := by rw [hW0, ← hQ]
  clear hQ hW0
  refine HST.out.mono ?_
  rintro e w1 ⟨b, ab, gb, ca, cg, rfl, hr, hge, hb⟩
  have HR := Lib.hid hr
  have HG : Hid (w.heap.size + 1 ≤ b ∧ w.heap.size + 1 ≤ ab ∧ w.heap.size + 1 ≤ gb) := by rw [hs0] at hge; exact hge
  have HB := Lib.hid (HB0.out.trans (hb.mono (by omega)))
  have c0 := Below.cell_some hb c0
  have c1 := Below.cell_some hb c1
  have HA1 := Lib.hid (HA.out.below hb)
  have hs1 : w.heap.size + 1 ≤ w1.heap.size := by have := hb.size; omega
  clear hr hge hb HST
  go_wp2
  go_loopw [6] (fun tm wr => ∃ j : Nat, j < v ∧ tm = .int .i64 (2 * ((j : Int) + 1)) ∧ RunAt wr b ab 0 gb 0 l.length ca cg L (runC L l (2 * j)).1 (runC L l (2 * j)).2 (runG L l (2 * j)) ∧ Below (w.heap.size + 1) w1 wr)
    (fun tm _ => (2 * (v : Int) - intOf tm).toNat)
  case atStart => exact ⟨0, by omega, by simp, HR.out, Below.refl _ _⟩
  case round =>
    obtain ⟨j, hj, rfl, hra, hbr⟩ := hrel
    obtain ⟨W2, rfl⟩ : ∃ W, W = wr := ⟨_, rfl⟩
    have HBR := Lib.hid hbr
    have c0 := (hbr.cell (p := ⟨w.heap.size, 0, none⟩) (by simp)).trans c0
    have c1 := (hbr.cell (p := ⟨w.heap.size, 1, none⟩) (by simp)).trans c1
    have HRA := Lib.hid hra
    clear hra hbr HR
    have HGB : Hid (∀ (t : Nat), t ≤ 8001 → ∀ (k : Nat) (g : Int), (runG L l t)[k]? = some g → -1000000 ≤ g ∧ g ≤ 1000000) := fun t ht k g hk => by have := HGL.out t k g hk; omega
    have hm1 : (runC L l (2 * j)).2 ≤ 1000000000 := by have := HML.out (2 * j); omega
    have hm2 : (runC L l (2 * j + 1)).2 ≤ 1000000000 := by have := HML.out (2 * j + 1); omega
    have HS1 := Lib.hid (step_any (w.heap.size + 1) b ab 0 gb 0 l.length ca cg L (runC L l (2 * j)).1 (runC L l (2 * j)).2 (runG L l (2 * j)) W2 HRA.out (HGB.out (2 * j) (by omega)) ⟨hL0, hL1⟩ hl16 hm1 HG.out)
    go_wp2_with fail
    refine HS1.out.mono ?_
    rintro e w2 ⟨q1, rfl, hr2, hb2⟩
    have HR2 : Hid (RunAt w2 b ab 0 gb 0 l.length ca cg L (runC L l (2 * j + 1)).1 (runC L l (2 * j + 1)).2 (runG L l (2 * j + 1))) := hr2
    have HB2 := Lib.hid (HBR.out.trans hb2)
    have c0 := (hb2.cell (p := ⟨w.heap.size, 0, none⟩) (by simp)).trans c0
    have c1 := (hb2.cell (p := ⟨w.heap.size, 1, none⟩) (by simp)).trans c1
    clear hr2 hb2 HS1 HRA
    have HS2 := Lib.hid (step_any (w.heap.size + 1) b ab 0 gb 0 l.length ca cg L (runC L l (2 * j + 1)).1 (runC L l (2 * j + 1)).2 (runG L l (2 * j + 1)) w2 HR2.out (HGB.out (2 * j + 1) (by omega)) ⟨hL0, hL1⟩ hl16 hm2 HG.out)
    go_wp2_with fail
    refine HS2.out.mono ?_
    rintro e w3 ⟨q2, rfl, hr3, hb3⟩
    have HR3 : Hid (RunAt w3 b ab 0 gb 0 l.length ca cg L (runC L l (2 * (j + 1))).1 (runC L l (2 * (j + 1))).2 (runG L l (2 * (j + 1)))) := hr3
    have HB3 := Lib.hid (HB2.out.trans hb3)
    have c0 := (hb3.cell (p := ⟨w.heap.size, 0, none⟩) (by simp)).trans c0
    have c1 := (hb3.cell (p := ⟨w.heap.size, 1, none⟩) (by simp)).trans c1
    clear hr3 hb3 HS2 HR2
    obtain ⟨A3, ra, ha3, hn3⟩ := HR3.out.slice
    have HBW := Lib.hid (HB.out.trans (HB3.out.mono (Nat.le_succ _)))
    have HAW3 := Lib.hid (HAW.out.below HBW.out)
    have HA3 := Lib.hid ha3
    have HL3 := Lib.hid (HRL.out (2 * (j + 1)))
    have HSM : Hid (∀ W, AntsAt W A3 (runC L l (2 * (j + 1))).1 → AntsAt W A l → Calls Try.prog 66 #[.slice A3 l.length ca, .slice A l.length c] W fun e w' => e = .returned (.bool (backP L l (j + 1))) ∧ Below W.heap.size W w') := fun W h1 h2 => ciSame_any A3 A ca c l.length _ l W HL3.out rfl hl16 h1 h2
    have HT3 := Lib.hid (HRT.out (2 * (j + 1)))
    have HSO : Hid (∀ W, AntsAt W A3 (runC L l (2 * (j + 1))).1 → Calls Try.prog 38 #[.slice A3 l.length ca] W fun e w' => ∃ A' n' c', e = .returned (.slice A' n' c') ∧ n' = l.length ∧ AntsAt w' A' (caV L l ((2 * (j + 1) : Nat) : Int)) ∧ Below W.heap.size W w') := fun W h1 => by
      have h := ciSorted_any A3 ca _ W (by rw [HL3.out]; exact hl16) h1
      rw [HL3.out] at h
      refine h.mono ?_
      rintro e w' ⟨A', n', c', rfl, hn', ho', hb'⟩
      refine ⟨A', n', c', rfl, by rw [hn', srtA_len, HL3.out], ?_, hb'⟩
      have hh := AntsOwn.ants ho'
      rw [HT3.out] at hh
      exact hh
    have HSQ : Hid (∀ (A' : Option Addr) (c' : Nat) (W : World), AntsAt W A' (caV L l ((2 * (j + 1) : Nat) : Int)) → AntsAt W A l → Calls Try.prog 66 #[.slice A' l.length c', .slice A l.length c] W fun e w' => e = .returned (.bool (sameP L l (j + 1))) ∧ Below W.heap.size W w') := fun A' c' W h1 h2 => ciSame_any A' A c' c l.length _ l W (by unfold caV; rw [srtA_len, List.length_map]) rfl hl16 h1 h2
    have hlast : j + 1 < v → sameP L l (j + 1) = false := fun h => HN.out (j + 1) (by omega) h
    have hend : sameP L l (j + 1) = false → j + 1 < v := fun h => by
      refine Classical.byContradiction fun hn => ?_
      have : j + 1 = v := by omega
      rw [this, HP.out] at h
      cases h
    have HLAST := Lib.hid hlast
    have HEND := Lib.hid hend
    clear hlast hend ha3 hn3
    have HBL : Hid (w.heap.size + 1 ≤ w3.heap.size) := Nat.le_trans hs1 HB3.out.size
    have hw2 : IntKind.i64.wrap (2 * ((j : Int) + 1) + 2) = 2 * ((j : Int) + 1) + 2 := IntWalk.i64_in _ (by omega)
    have f1 := Ext.cell (W := w3) c1
    have fr := Ext.cell (W := w3) ra
    have HXA : Hid (∀ x : Ext w3, AntsAt x.w A3 (runC L l (2 * (j + 1))).1 ∧ AntsAt x.w A l) := fun x => ⟨HA3.out.below x.h, HAW3.out.below x.h⟩
    cases hbk : backP L l (j + 1) with
    | true =>
      have hvj : v = j + 1 := by
        refine Classical.byContradiction fun hn => ?_
        have h1 := HLAST.out (by omega)
        rw [HBS.out _ hbk] at h1
        cases h1
      rw [hbk] at HSM
      subst hvj
      clear hbk c0 c1 ra HSO HSQ
      go_wp2
      refine wp_region_ext (by kernel_rfl) (by kernel_rfl) ?_
      repeat (first | go_big_quiet_skip | (go_big_quiet_want; go_big_quiet_op; first | go_big_quiet_on | (apply Exists.intro; refine ⟨fun x => ?_, ?_⟩; (go_at_call 66; exact Ext.call (HSM.out _ (HXA.out _).1 (HXA.out _).2)); go_big_quiet_on)))
      refine wpQuiet_nil ?_
      rintro _ ⟨x, rfl⟩
      go_wp2
      go_ret
      exact ⟨ret_int (by push_cast; omega), HBW.out.trans (x.h.mono HBW.out.size)⟩
    | false =>
      rw [hbk] at HSM
      have d1 : w3.drew.cell? ⟨w.heap.size, 1, none⟩ = some (.slice A l.length c) := c1
      have dr : w3.drew.cell? ⟨b, 1, none⟩ = some (.slice A3 l.length ca) := ra
      have HAD : Hid (AntsAt w3.drew A l) := HAW3.out.below ((Below.refl _ w3).drew)
      have HAE : Hid (AntsAt w3.drew A3 (runC L l (2 * (j + 1))).1) := HA3.out.below ((Below.refl _ w3).drew)
      have HBD : Hid (Below w3.heap.size w3 w3.drew) := (Below.refl _ w3).drew
      clear f1 fr hbk
      cases hsm : sameP L l (j + 1) with
      | true =>
        have hvj : v = j + 1 := by
          refine Classical.byContradiction fun hn => ?_
          have h1 := HLAST.out (by omega)
          rw [hsm] at h1
          cases h1
        rw [hsm] at HSQ
        subst hvj
        clear hsm c0 c1 ra
        go_wp2
        go_region_held3 (fun w' => w'.cell? ⟨w.heap.size, 1, none⟩ = some (.slice A l.length c) ∧ w'.cell? ⟨b, 1, none⟩ = some (.slice A3 l.length ca))
          (first | exact ⟨d1, dr⟩ | exact ⟨e1, er⟩ | exact ⟨g1, gr⟩ | exact ⟨h1, hr⟩ | go_keep)
          (first
            | (go_at_call 66; have _q := HA5.out; with_reducible refine (HSQ.out _ _ _ HA5.out HW5.out).mono ?_; rintro e w6 ⟨rfl, hb⟩; have h1 := Below.cell_some hb g1; have hr := Below.cell_some hb gr; have HB6 := Lib.hid (HB5.out.trans (hb.mono HB5.out.size)); clear hb)
            | (go_at_call 66; with_reducible refine (HSM.out _ HAE.out HAD.out).mono ?_; rintro e w4 ⟨rfl, hb⟩; have e1 := Below.cell_some hb d1; have er := Below.cell_some hb dr; have HB4 := Lib.hid (HBD.out.trans (hb.mono HBD.out.size)); have HA4 := Lib.hid (HAE.out.below hb); have HW4 := Lib.hid (HAD.out.below hb); clear hb)
            | (go_at_call 38; with_reducible refine (HSO.out _ HA4.out).mono ?_; rintro e w5 ⟨A5, n5, c5, rfl, hn5, ha5, hb⟩; subst hn5; have g1 := Below.cell_some hb e1; have gr := Below.cell_some hb er; have HB5 := Lib.hid (HB4.out.trans (hb.mono HB4.out.size)); have HA5 := Lib.hid ha5; have HW5 := Lib.hid (HW4.out.below hb); clear hb ha5))
        all_goals (
          go_wp2
          go_ret
          exact ⟨ret_int (by push_cast; omega), HBW.out.trans (HB6.out.mono HBW.out.size)⟩)
      | false =>
        have hvj := HEND.out hsm
        rw [hsm] at HSQ
        clear hsm c0 c1 ra
        go_wp2
        go_region_held3 (fun w' => w'.cell? ⟨w.heap.size, 1, none⟩ = some (.slice A l.length c) ∧ w'.cell? ⟨b, 1, none⟩ = some (.slice A3 l.length ca))
          (first | exact ⟨d1, dr⟩ | exact ⟨e1, er⟩ | exact ⟨g1, gr⟩ | exact ⟨h1, hr⟩ | go_keep)
          (first
            | (go_at_call 66; have _q := HA5.out; with_reducible refine (HSQ.out _ _ _ HA5.out HW5.out).mono ?_; rintro e w6 ⟨rfl, hb⟩; have h1 := Below.cell_some hb g1; have hr := Below.cell_some hb gr; have HB6 := Lib.hid (HB5.out.trans (hb.mono HB5.out.size)); clear hb)
            | (go_at_call 66; with_reducible refine (HSM.out _ HAE.out HAD.out).mono ?_; rintro e w4 ⟨rfl, hb⟩; have e1 := Below.cell_some hb d1; have er := Below.cell_some hb dr; have HB4 := Lib.hid (HBD.out.trans (hb.mono HBD.out.size)); have HA4 := Lib.hid (HAE.out.below hb); have HW4 := Lib.hid (HAD.out.below hb); clear hb)
            | (go_at_call 38; with_reducible refine (HSO.out _ HA4.out).mono ?_; rintro e w5 ⟨A5, n5, c5, rfl, hn5, ha5, hb⟩; subst hn5; have g1 := Below.cell_some hb e1; have gr := Below.cell_some hb er; have HB5 := Lib.hid (HB4.out.trans (hb.mono HB4.out.size)); have HA5 := Lib.hid ha5; have HW5 := Lib.hid (HW4.out.below hb); clear hb ha5))
        all_goals (
          go_wp2
          go_roundw
          case rel => exact ⟨j + 1, hvj, by first | rfl | go_num | (congr 1; push_cast; omega), HR3.out.below HB6.out, HB3.out.trans (HB6.out.mono HBL.out)⟩
          case measure => (simp [intOf]; omega))

set_option maxRecDepth 100000 in
set_option maxHeartbeats 1000000 in
theorem specLooksSameAfter_any (L : Int) (A : Option Addr) (c : Nat) (l : List (Int × Int)) (w : World) (hA : AntsAt w A l) :
    Calls Try.prog 25 #[.agg #[.int .i64 L, .slice A l.length c]] w fun e w' => e = .returned (.tuple #[.int .i64 (lsR L l), .bool (ciB L l)]) ∧ Below w.heap.size w w' := by
  have HAW := Lib.hid hA
  obtain ⟨X, hX⟩ : ∃ X, X = w.alloc (Obj.cells #[Value.int IntKind.i64 L, Value.slice A l.length c] 28) := ⟨_, rfl⟩
  have HB0 : Hid (Below w.heap.size w X) := by show Below _ _ _; rw [hX]; exact (Below.refl _ w).alloc (Nat.le_refl _) _
  have c0 : X.cell? ⟨w.heap.size, 0, none⟩ = some (.int .i64 L) := by rw [hX]; simp
  have c1 : X.cell? ⟨w.heap.size, 1, none⟩ = some (.slice A l.length c) := by rw [hX]; simp
  have HA := Lib.hid (hA.below HB0.out)
  have HG : Hid (∀ w, AntsAt w A l → Calls Try.prog 36 #[.agg #[.int .i64 L, .slice A l.length c]] w fun e w' => e = .returned (.bool (ciB L l)) ∧ Below w.heap.size w w') := fun w h => ciGood_any L A c l w h
  clear hA
  cases hg : ciB L l with
  | false =>
    have HV : Hid (lsR L l = 0) := by show _ = _; simp [lsR, hg]
    rw [hg] at HG
    clear hg
    rw [HV.out]
    go_enter Try.func25, Try.ntmps25
    go_wp2_with fail
    generalize hQ : World.alloc w _ = X1
    obtain rfl : X1 = X := by rw [hX, ← hQ]
    clear hQ hX
    refine (HG.out _ HA.out).mono ?_
    rintro e w1 ⟨rfl, hb⟩
    have HB := Lib.hid (HB0.out.trans (hb.mono HB0.out.size))
    clear hb
    go_wp2
    go_ret2
    exact ⟨rfl, HB.out⟩
  | true =>
    obtain ⟨v1, v2, v3, v4⟩ := ls_spec hg
    have HV : Hid (lsR L l = 2 * (lsN L l : Int)) := by show _ = _; simp [lsR, hg]
    have HC : Hid (∀ W, AntsAt W A l → Calls Try.prog 52 #[.agg #[.int .i64 L, .slice A l.length c], .bool true] W fun e w' => e = .returned (.int .i64 (2 * (lsN L l : Int))) ∧ Below W.heap.size W w') := fun W hW => ciBackT_any L A c l _ W hg v1 (by omega) v3 v4 hW
    rw [hg] at HG
    clear hg v3 v4
    rw [HV.out]
    generalize lsN L l = v at *
    go_enter Try.func25, Try.ntmps25
    go_wp2_with fail
    generalize hQ : World.alloc w _ = X1
    obtain rfl : X1 = X := by rw [hX, ← hQ]
    clear hQ hX
    refine (HG.out _ HA.out).mono ?_
    rintro e w1 ⟨rfl, hb⟩
    have HB := Lib.hid (HB0.out.trans (hb.mono HB0.out.size))
    have c0 := Below.cell_some hb c0
    have c1 := Below.cell_some hb c1
    have HA1 := Lib.hid (HA.out.below hb)
    clear hb
    go_wp2_with fail
    refine (HC.out _ HA1.out).mono ?_
    rintro e w2 ⟨rfl, hb⟩
    have HB2 := Lib.hid (HB.out.trans (hb.mono HB.out.size))
    clear hb
    go_wp2
    go_ret2
    exact ⟨rfl, HB2.out⟩
end Go.Proofs.Ytdoikeglaolipaa
