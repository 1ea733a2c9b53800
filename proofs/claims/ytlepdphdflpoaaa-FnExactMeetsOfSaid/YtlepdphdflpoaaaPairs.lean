/- When each pair of ghosts meets: timesOfPairs and spMeets. -/
import Derived.Test.YtlepdphdflpoaaaMomS
import Derived.Test.YtlepdphdflpoaaaKept
namespace Go.Proofs.Ytlepdphdflpoaaa
open Go.RowKit

theorem momInfo : (Try.prog.info? 32).map (fun i => (i.zero, i.size, i.bytes)) = some (some (.agg #[.int .i64 0, .int .i64 0]), pairS.size, 16) := by kernel_rfl
theorem fm_snoc (f : Int × Int → Option (Int × Int)) (l : List (Int × Int)) (j : Nat) (hj : j < l.length) : (l.take (j + 1)).filterMap f = (l.take j).filterMap f ++ (f (l.getD j (0, 0))).toList := by
  rw [List.take_succ_eq_append_getElem hj, List.filterMap_append, getDp hj]
  cases h : f l[j] <;> simp [h]
theorem drop_getD (l : List (Int × Int)) (k j : Nat) : (l.drop k).getD j (0, 0) = l.getD (k + j) (0, 0) := by
  rw [List.getD_eq_getElem?_getD, List.getD_eq_getElem?_getD, List.getElem?_drop]
theorem meetP_yes {x y : Int × Int} (h : y.2 < x.2) : meetP x y = some (lowP (y.1 - x.1) (x.2 - y.2)) := by unfold meetP; rw [if_pos h]
theorem meetP_no {x y : Int × Int} (h : ¬ y.2 < x.2) : meetP x y = none := by unfold meetP; rw [if_neg h]

set_option maxRecDepth 100000 in
set_option maxHeartbeats 2000000 in
theorem timesOfPairs_any (A : Option Addr) (c : Nat) (l : List (Int × Int)) (w : World) (hg : rnnB l = true) (hcap : l.length ≤ c) (hA : AntsAt w A l) :
    Calls Try.prog 76 #[.slice A l.length c] w fun e w' => ∃ A' n' c', e = .returned (.slice A' n' c') ∧ n' = (tiL l).length ∧ SlOwn pairS w' w.heap.size 32 (.slice A' n' c') (tiL l) ∧ Below w.heap.size w w' := by
  obtain ⟨i0, hi, hz0, hz1, hz2⟩ := info_parts momInfo
  have HA := Lib.hid hA
  have hn12 := rnn_len hg
  have HGG := Lib.hid hg
  clear hA hg
  go_enter Try.func76, Try.ntmps76
  go_wp2
  go_loopw [3, 11] (fun v i wr => ∃ (k : Nat) (A5 : Option Addr) (n5 c5 : Nat), k ≤ l.length ∧ i = .int .i64 k ∧ v = .slice A5 n5 c5 ∧ Below w.heap.size w wr ∧ SlOwn pairS wr w.heap.size 32 (.slice A5 n5 c5) (tiK l k))
    (fun _ i _ => l.length - (intOf i).toNat)
  case atStart => exact ⟨0, none, 0, 0, Nat.zero_le _, rfl, rfl, Below.refl _ _, SlOwn.nil pairS _ _ _⟩
  case round =>
    obtain ⟨k, A5, n5, c5, hk, rfl, rfl, hbr, hown⟩ := hrel
    obtain ⟨W1, rfl⟩ : ∃ W, W = wr := ⟨_, rfl⟩
    have HBr := Lib.hid hbr
    have hsr := hbr.size
    have HAr := Lib.hid (HA.out.below hbr)
    have HO := Lib.hid hown
    clear hbr hown
    by_cases hlt : k < l.length
    · obtain ⟨b, off, rfl, l0, hc⟩ := HAr.out.at_ hlt
      obtain ⟨a0, a1⟩ := hc k hlt
      have hx1 := rnn_one HGG.out hlt
      have HX : Hid (∀ j, j < (l.drop (k + 1)).length → tiK l k ++ ((l.drop (k + 1)).take (j + 1)).filterMap (meetP (l.getD k (0, 0))) = (tiK l k ++ ((l.drop (k + 1)).take j).filterMap (meetP (l.getD k (0, 0)))) ++ (meetP (l.getD k (0, 0)) ((l.drop (k + 1)).getD j (0, 0))).toList) := fun j hj => by
        rw [fm_snoc _ _ j hj, List.append_assoc]
      have HF : Hid (tiK l (k + 1) = tiK l k ++ ((l.drop (k + 1)).take (l.drop (k + 1)).length).filterMap (meetP (l.getD k (0, 0)))) := by show _ = _; rw [List.take_length]; rfl
      have HT : Hid (∀ j, (tiK l k ++ ((l.drop (k + 1)).take j).filterMap (meetP (l.getD k (0, 0)))).length ≤ 200) := fun j => by
        have h1 := tiK_144 hn12 (k := k) (by omega)
        have h2 : (((l.drop (k + 1)).take j).filterMap (meetP (l.getD k (0, 0)))).length ≤ ((l.drop (k + 1)).take j).length := List.length_filterMap_le _ _
        rw [List.length_take, List.length_drop] at h2
        rw [List.length_append]; omega
      have HD : Hid (∀ wq : World, Below w.heap.size w wq → SlAt pairS wq (if c = k + 1 then some ⟨b, off, none⟩ else some ⟨b, off + (k + 1) * 2, none⟩) (l.drop (k + 1))) := fun wq hq =>
        ((antsAt_sl HA.out).below hq).dropIf k c hcap
      have HM : Hid (∀ j, j < (l.drop (k + 1)).length → 0 ≤ ((l.drop (k + 1)).getD j (0, 0)).1 ∧ ((l.drop (k + 1)).getD j (0, 0)).1 ≤ 1000 ∧ -9 ≤ ((l.drop (k + 1)).getD j (0, 0)).2 ∧ ((l.drop (k + 1)).getD j (0, 0)).2 ≤ 9) := fun j hj => by
        rw [drop_getD]; exact rnn_one HGG.out (by rw [List.length_drop] at hj; omega)
      have hdl : (l.drop (k + 1)).length = l.length - (k + 1) := List.length_drop
      have hm12 : (l.drop (k + 1)).length ≤ 12 := by omega
      have HN5 := Lib.hid (own_len HO.out)
      have hkw : k + 1 ≤ l.length := hlt
      clear hc
      generalize l.drop (k + 1) = m at *
      generalize l.getD k (0, 0) = x at *
      obtain ⟨x1, x2⟩ := x
      simp only at a0 a1 hx1
      generalize hs0 : tiK l k = s0 at *
      clear hs0
      have HDL := Lib.hid hdl
      have HK1 := Lib.hid hkw
      have HW := Lib.hid (World.ownsRow.lt HO.out)
      clear hkw
      by_cases hcc : c = k + 1
      · have hm0 : m = [] := List.eq_nil_of_length_eq_zero (by omega)
        subst hm0
        have hz : ¬ 0 < l.length - (k + 1) := by omega
        have hz2 : l.length - (k + 1) = 0 := by omega
        have HF1 : Hid (tiK l (k + 1) = s0) := by show _ = _; rw [HF.out]; simp
        go_wp2
        go_loop [3, 21] (fun v i => v = .slice A5 n5 c5 ∧ i = .int .i64 0) (fun _ _ => 0)
        case atStart => exact ⟨rfl, rfl⟩
        case round =>
          obtain ⟨rfl, rfl⟩ := hrel
          go_wp2
          go_roundw
          case rel => exact ⟨k + 1, A5, n5, c5, by omega, by go_num, rfl, HBr.out.alloc hsr _, by rw [HF1.out]; exact HO.out.alloc' _⟩
          case measure => simp [intOf]; omega
      · have hcc2 : decide (c = k + 1) = false := by simpa using hcc
        go_wp2
        go_loopw [3, 21] (fun v i w2 => ∃ (j : Nat) (A6 : Option Addr) (n6 c6 : Nat), j ≤ m.length ∧ i = .int .i64 j ∧ v = .slice A6 n6 c6 ∧ Below w.heap.size w w2 ∧ W1.heap.size < w2.heap.size ∧ w2.cell? ⟨W1.heap.size, 0, none⟩ = some (.int .i64 x1) ∧ w2.cell? ⟨W1.heap.size, 1, none⟩ = some (.int .i64 x2) ∧ (∀ g, (Value.slice A6 n6 c6).ownBlock = some g → g ≠ W1.heap.size) ∧ SlOwn pairS w2 w.heap.size 32 (.slice A6 n6 c6) (s0 ++ (m.take j).filterMap (meetP (x1, x2))))
          (fun _ i _ => m.length - (intOf i).toNat)
        case atStart => exact ⟨0, A5, n5, c5, Nat.zero_le _, rfl, rfl, HBr.out.alloc hsr _, by simp, by simp, by simp, fun g hg h => by have := (HW.out g hg).2; omega, by simpa using HO.out.alloc' _⟩
        case round =>
          clear a0 a1
          obtain ⟨j, A6, n6, c6, hj, rfl, rfl, hb2, hs2, c0, c1, hne, hown⟩ := hrel
          have HB2 := Lib.hid hb2
          have hsw := hb2.size
          have HO2 := Lib.hid hown
          have HNE := Lib.hid hne
          have HD2 := Lib.hid (HD.out _ hb2)
          clear hb2 hown hne
          by_cases hlj : j < m.length
          · have hjd : j < l.length - (k + 1) := by have := HDL.out; omega
            have hHD := HD2.out
            rw [if_neg hcc] at hHD
            obtain ⟨b2, o2, hbo, l2, hc2⟩ := (slAt_ants hHD).at_ hlj
            simp only [Option.some.injEq, Addr.mk.injEq, and_true] at hbo
            obtain ⟨rfl, rfl⟩ := hbo
            obtain ⟨b0, b1⟩ := hc2 j hlj
            have hy1 := HM.out j hlj
            have HXJ := Lib.hid (HX.out j hlj)
            have HTJ := Lib.hid (HT.out j)
            have HWr := Lib.hid (World.ownsRow.lt HO2.out)
            clear hc2 hHD
            generalize m.getD j (0, 0) = y at *
            obtain ⟨y1, y2⟩ := y
            simp only at b0 b1 hy1
            have hw1 : IntKind.i64.wrap (x2 - y2) = x2 - y2 := IntWalk.i64_in _ (by omega)
            have hw2 : IntKind.i64.wrap (y1 - x1) = y1 - x1 := IntWalk.i64_in _ (by omega)
            generalize s0 ++ (m.take j).filterMap (meetP (x1, x2)) = s at *
            by_cases hlt2 : y2 < x2
            · have hd0 : 0 < x2 - y2 := by omega
              have HP := Lib.hid (meetP_yes (x := (x1, x2)) (y := (y1, y2)) hlt2)
              have HL := Lib.hid (fun w => lowest_any (y1 - x1) (x2 - y2) w hd0 (by omega) (by omega) (by omega))
              simp only at HP
              obtain ⟨ad, had⟩ : ∃ ad, lowP (y1 - x1) (x2 - y2) = ad := ⟨_, rfl⟩
              rw [had] at HP HL
              clear had
              obtain ⟨a, d⟩ := ad
              simp only at HL
              go_wp2_with fail
              refine (HL.out _).mono ?_
              rintro e w3 ⟨rfl, hb3⟩
              have hb23 : Below wr.heap.size wr w3 := ((Below.refl _ _).alloc (Nat.le_refl _) _).trans (hb3.mono (by simp))
              have s3 : wr.heap.size < w3.heap.size := by have := hb3.size; simp at this; omega
              have HO3 := Lib.hid (HO2.out.below hb23)
              have HB23 := Lib.hid hb23
              clear hb3 hb23
              go_wp2_with (at_builtin; go_must (refine wpList_append_slsw pairS _ rfl _ _ 35 rfl w.heap.size 32 i0 _ 16 Try.underlying35 hi hz0 hz1 hz2 rfl (by decide) (.slice A6 n6 c6) s rfl (HO3.out.alloc' _) ⟨w3.heap.size, 0, none⟩ 1 1 [(a, d)] rfl rfl (slAt_one (heap_new rfl)) (by have := HTJ.out; simp only [List.length_cons, List.length_nil]; omega) (by simp; omega) ?_); intro A7 n7 k7 w7 hown7 hg7 hb7)
              go_roundw
              case rel =>
                have hbb : Below wr.heap.size wr (w3.alloc (Obj.cells #[Value.int IntKind.i64 a, Value.int IntKind.i64 d] 32)) := HB23.out.alloc (by omega) _
                have hne := HNE.out
                have hlw := HWr.out
                have s7 := hg7.size
                simp at s7
                refine ⟨j + 1, A7, n7, k7, by omega, by go_num, rfl, ?_, by omega, ?_, ?_, ?_, ?_⟩
                · exact HB2.out.trans ((hbb.mono hsw).trans ((Below.refl _ _).grown hg7 (by simp; omega) (fun g hg => (hlw g hg).1)))
                · exact hg7.cell (Below.cell_some hbb c0) (fun h => hne _ h.symm rfl)
                · exact hg7.cell (Below.cell_some hbb c1) (fun h => hne _ h.symm rfl)
                · intro g hg
                  rcases hb7 with h | h
                  · exact hne g (by rw [← h]; exact hg)
                  · rw [h] at hg
                    injection hg with hg
                    simp at hg
                    omega
                · rw [HXJ.out, HP.out]; exact hown7
              case measure => simp [intOf]; omega
            · have HP := Lib.hid (meetP_no (x := (x1, x2)) (y := (y1, y2)) hlt2)
              have hdf : decide (0 < x2 - y2) = false := by simp; omega
              go_wp2
              go_roundw
              case rel => exact ⟨j + 1, A6, n6, c6, by omega, by go_num, rfl, HB2.out.alloc (by omega) _, by simp; omega, alloc_some c0 _, alloc_some c1 _, HNE.out, by rw [HXJ.out, HP.out]; simpa using HO2.out.alloc' _⟩
              case measure => simp [intOf]; omega
          · obtain rfl : j = m.length := by omega
            have hjd : ¬ m.length < l.length - (k + 1) := by have := HDL.out; omega
            go_wp2
            go_roundw
            case rel => exact ⟨k + 1, A6, n6, c6, by omega, by go_num, rfl, HB2.out, by rw [HF.out]; exact HO2.out⟩
            case measure => simp [intOf]; omega
    · obtain rfl : k = l.length := by omega
      have hn5 := own_len HO.out
      go_wp2
      go_ret
      exact ⟨_, _, _, rfl, hn5, HO.out, HBr.out⟩
set_option maxRecDepth 100000 in
set_option maxHeartbeats 2000000 in
theorem spMeets_any (A : Option Addr) (c : Nat) (l : List (Int × Int)) (w : World) (hg : rnnB l = true) (hcap : l.length ≤ c) (hA : AntsAt w A l) :
    Calls Try.prog 74 #[.slice A l.length c] w fun e w' => ∃ A' n' c', e = .returned (.slice A' n' c') ∧ n' = (tsL l).length ∧ SlOwn pairS w' w.heap.size 32 (.slice A' n' c') (tsL l) ∧ Below w.heap.size w w' := by
  obtain ⟨i0, hi, hz0, hz1, hz2⟩ := info_parts momInfo
  have HA := Lib.hid hA
  have hn12 := rnn_len hg
  have HGG := Lib.hid hg
  clear hA hg
  go_enter Try.func74, Try.ntmps74
  go_wp2
  go_loopw [3, 10] (fun v i wr => ∃ (k : Nat) (A5 : Option Addr) (n5 c5 : Nat), k ≤ l.length ∧ i = .int .i64 k ∧ v = .slice A5 n5 c5 ∧ Below w.heap.size w wr ∧ SlOwn pairS wr w.heap.size 32 (.slice A5 n5 c5) (tsK l k))
    (fun _ i _ => l.length - (intOf i).toNat)
  case atStart => exact ⟨0, none, 0, 0, Nat.zero_le _, rfl, rfl, Below.refl _ _, SlOwn.nil pairS _ _ _⟩
  case round =>
    obtain ⟨k, A5, n5, c5, hk, rfl, rfl, hbr, hown⟩ := hrel
    obtain ⟨W1, rfl⟩ : ∃ W, W = wr := ⟨_, rfl⟩
    have HBr := Lib.hid hbr
    have hsr := hbr.size
    have HAr := Lib.hid (HA.out.below hbr)
    have HO := Lib.hid hown
    clear hbr hown
    by_cases hlt : k < l.length
    · obtain ⟨b, off, rfl, l0, hc⟩ := HAr.out.at_ hlt
      obtain ⟨a0, a1⟩ := hc k hlt
      have hx1 := rnn_one HGG.out hlt
      have HX : Hid (∀ j, j < (l.take k).length → tsK l k ++ ((l.take k).take (j + 1)).filterMap (fun q => meetP q (l.getD k (0, 0))) = (tsK l k ++ ((l.take k).take j).filterMap (fun q => meetP q (l.getD k (0, 0)))) ++ (meetP ((l.take k).getD j (0, 0)) (l.getD k (0, 0))).toList) := fun j hj => by
        rw [fm_snoc _ _ j hj, List.append_assoc]
      have HF : Hid (tsK l (k + 1) = tsK l k ++ ((l.take k).take (l.take k).length).filterMap (fun q => meetP q (l.getD k (0, 0)))) := by show _ = _; rw [List.take_length]; rfl
      have HT : Hid (∀ j, (tsK l k ++ ((l.take k).take j).filterMap (fun q => meetP q (l.getD k (0, 0)))).length ≤ 200) := fun j => by
        have h1 := tsK_144 hn12 (k := k) (by omega)
        have h2 : (((l.take k).take j).filterMap (fun q => meetP q (l.getD k (0, 0)))).length ≤ ((l.take k).take j).length := List.length_filterMap_le _ _
        rw [List.length_take, List.length_take] at h2
        rw [List.length_append]; omega
      have HD : Hid (∀ wq : World, Below w.heap.size w wq → SlAt pairS wq (some ⟨b, off, none⟩) (l.take k)) := fun wq hq =>
        ((antsAt_sl HA.out).below hq).take k
      have HM : Hid (∀ j, j < (l.take k).length → 0 ≤ ((l.take k).getD j (0, 0)).1 ∧ ((l.take k).getD j (0, 0)).1 ≤ 1000 ∧ -9 ≤ ((l.take k).getD j (0, 0)).2 ∧ ((l.take k).getD j (0, 0)).2 ≤ 9) := fun j hj => by
        rw [List.length_take] at hj; have h9 : (l.take k).getD j (0, 0) = l.getD j (0, 0) := by (rw [List.getD_eq_getElem?_getD, List.getD_eq_getElem?_getD, List.getElem?_take_of_lt (by omega)])
        rw [h9]; exact rnn_one HGG.out (by omega)
      have hdl : (l.take k).length = k := by rw [List.length_take]; omega
      have hm12 : (l.take k).length ≤ 12 := by omega
      have HN5 := Lib.hid (own_len HO.out)
      have hkw : k + 1 ≤ l.length := hlt
      clear hc
      generalize l.take k = m at *
      generalize l.getD k (0, 0) = x at *
      obtain ⟨x1, x2⟩ := x
      simp only at a0 a1 hx1
      generalize hs0 : tsK l k = s0 at *
      clear hs0
      have HDL := Lib.hid hdl
      have HK1 := Lib.hid hkw
      have HW := Lib.hid (World.ownsRow.lt HO.out)
      clear hkw
      go_wp2
      go_loopw [3, 19] (fun v i w2 => ∃ (j : Nat) (A6 : Option Addr) (n6 c6 : Nat), j ≤ m.length ∧ i = .int .i64 j ∧ v = .slice A6 n6 c6 ∧ Below w.heap.size w w2 ∧ W1.heap.size < w2.heap.size ∧ w2.cell? ⟨W1.heap.size, 0, none⟩ = some (.int .i64 x1) ∧ w2.cell? ⟨W1.heap.size, 1, none⟩ = some (.int .i64 x2) ∧ (∀ g, (Value.slice A6 n6 c6).ownBlock = some g → g ≠ W1.heap.size) ∧ SlOwn pairS w2 w.heap.size 32 (.slice A6 n6 c6) (s0 ++ (m.take j).filterMap (fun q => meetP q (x1, x2))))
        (fun _ i _ => m.length - (intOf i).toNat)
      case atStart => exact ⟨0, A5, n5, c5, Nat.zero_le _, rfl, rfl, HBr.out.alloc hsr _, by simp, by simp, by simp, fun g hg h => by have := (HW.out g hg).2; omega, by simpa using HO.out.alloc' _⟩
      case round =>
        clear a0 a1
        obtain ⟨j, A6, n6, c6, hj, rfl, rfl, hb2, hs2, c0, c1, hne, hown⟩ := hrel
        have HB2 := Lib.hid hb2
        have hsw := hb2.size
        have HO2 := Lib.hid hown
        have HNE := Lib.hid hne
        have HD2 := Lib.hid (HD.out _ hb2)
        clear hb2 hown hne
        by_cases hlj : j < m.length
        · have hjd : j < k := by have := HDL.out; omega
          have hHD := HD2.out
          obtain ⟨b2, o2, hbo, l2, hc2⟩ := (slAt_ants hHD).at_ hlj
          simp only [Option.some.injEq, Addr.mk.injEq, and_true] at hbo
          obtain ⟨rfl, rfl⟩ := hbo
          obtain ⟨b0, b1⟩ := hc2 j hlj
          have hy1 := HM.out j hlj
          have HXJ := Lib.hid (HX.out j hlj)
          have HTJ := Lib.hid (HT.out j)
          have HWr := Lib.hid (World.ownsRow.lt HO2.out)
          clear hc2 hHD
          generalize m.getD j (0, 0) = y at *
          obtain ⟨y1, y2⟩ := y
          simp only at b0 b1 hy1
          generalize s0 ++ (m.take j).filterMap (fun q => meetP q (x1, x2)) = s at *
          by_cases hlt2 : x2 < y2
          · have HP := Lib.hid (meetP_yes (x := (y1, y2)) (y := (x1, x2)) hlt2)
            have HL := Lib.hid (fun w => pair_any (y1, y2) (x1, x2) w hlt2 hy1 hx1)
            simp only at HP HL
            obtain ⟨ad, had⟩ : ∃ ad, lowP (x1 - y1) (y2 - x2) = ad := ⟨_, rfl⟩
            rw [had] at HP HL
            clear had
            obtain ⟨a, d⟩ := ad
            simp only at HL
            go_wp2_with fail
            refine (HL.out _).mono ?_
            rintro e w3 ⟨rfl, hb3⟩
            have hb23 : Below wr.heap.size wr w3 := ((Below.refl _ _).alloc (Nat.le_refl _) _).trans (hb3.mono (by simp))
            have s3 : wr.heap.size < w3.heap.size := by have := hb3.size; simp at this; omega
            have HO3 := Lib.hid (HO2.out.below hb23)
            have HB23 := Lib.hid hb23
            clear hb3 hb23
            go_wp2_with (at_builtin; go_must (refine wpList_append_slsw pairS _ rfl _ _ 35 rfl w.heap.size 32 i0 _ 16 Try.underlying35 hi hz0 hz1 hz2 rfl (by decide) (.slice A6 n6 c6) s rfl (HO3.out.alloc' _) ⟨w3.heap.size, 0, none⟩ 1 1 [(a, d)] rfl rfl (slAt_one (heap_new rfl)) (by have := HTJ.out; simp only [List.length_cons, List.length_nil]; omega) (by simp; omega) ?_); intro A7 n7 k7 w7 hown7 hg7 hb7)
            go_roundw
            case rel =>
              have hbb : Below wr.heap.size wr (w3.alloc (Obj.cells #[Value.int IntKind.i64 a, Value.int IntKind.i64 d] 32)) := HB23.out.alloc (by omega) _
              have hne := HNE.out
              have hlw := HWr.out
              have s7 := hg7.size
              simp at s7
              refine ⟨j + 1, A7, n7, k7, by omega, by go_num, rfl, ?_, by omega, ?_, ?_, ?_, ?_⟩
              · exact HB2.out.trans ((hbb.mono hsw).trans ((Below.refl _ _).grown hg7 (by simp; omega) (fun g hg => (hlw g hg).1)))
              · exact hg7.cell (Below.cell_some hbb c0) (fun h => hne _ h.symm rfl)
              · exact hg7.cell (Below.cell_some hbb c1) (fun h => hne _ h.symm rfl)
              · intro g hg
                rcases hb7 with h | h
                · exact hne g (by rw [← h]; exact hg)
                · rw [h] at hg
                  injection hg with hg
                  simp at hg
                  omega
              · rw [HXJ.out, HP.out]; exact hown7
            case measure => simp [intOf]; omega
          · have HP := Lib.hid (meetP_no (x := (y1, y2)) (y := (x1, x2)) hlt2)
            have hdf : decide (x2 < y2) = false := by simp; omega
            go_wp2
            go_roundw
            case rel => exact ⟨j + 1, A6, n6, c6, by omega, by go_num, rfl, HB2.out.alloc (by omega) _, by simp; omega, alloc_some c0 _, alloc_some c1 _, HNE.out, by rw [HXJ.out, HP.out]; simpa using HO2.out.alloc' _⟩
            case measure => simp [intOf]; omega
        · obtain rfl : j = m.length := by omega
          have hjd : ¬ m.length < k := by have := HDL.out; omega
          go_wp2
          go_roundw
          case rel => exact ⟨k + 1, A6, n6, c6, by omega, by go_num, rfl, HB2.out, by rw [HF.out]; exact HO2.out⟩
          case measure => simp [intOf]; omega
    · obtain rfl : k = l.length := by omega
      have hn5 := own_len HO.out
      go_wp2
      go_ret
      exact ⟨_, _, _, rfl, hn5, HO.out, HBr.out⟩
end Go.Proofs.Ytlepdphdflpoaaa
