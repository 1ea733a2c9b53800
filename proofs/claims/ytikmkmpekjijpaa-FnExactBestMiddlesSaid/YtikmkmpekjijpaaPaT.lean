/- Balls on the program's side: the best two balls between two. Written by gen/pas.py. -/
import Derived.Test.YtikmkmpekjijpaaPaS
namespace Go.Proofs.Ytikmkmpekjijpaa
open Go.RowKit

set_option maxRecDepth 100000 in
set_option maxHeartbeats 8000000 in
theorem implBestMiddles_any (a b : Int) (w : World) :
    Calls Try.prog 50 #[.int .i64 a, .int .i64 b] w fun e w' => e = .returned (.tuple #[.int .i64 (mmV a b).1, .int .i64 (mmV a b).2, .bool (bmB a b)]) ∧ Below w.heap.size w w' := by
  cases h : bmB a b with
  | false =>
    have HV := Lib.hid (mmV_f h)
    have HC : Hid (∀ m n, ∀ W A c, SlAt intS W A [a, m, n, b] → 4 ≤ c → Calls Try.prog 42 #[.slice A 4 c] W fun e w' => e = .returned (.tuple #[.agg #[.int .i64 0, .int .i64 0], .bool false]) ∧ Below W.heap.size W w') := fun m n W A c hA hc => by
      have := implChainPace_any A c [a, m, n, b] W (by simp) (by simpa using hc) hA
      rwa [clP_f (ch4_no h), ch4_no h] at this
    generalize mmV a b = V at *
    clear h
    go_enter Try.func50, Try.ntmps50
    go_wp2_with fail
    refine (whole_any 0 _).mono ?_
    rintro e w1 ⟨rfl, hb⟩
    obtain ⟨W1, hW1⟩ : ∃ X, X = w1.alloc (Obj.cells #[Value.int .i64 0, Value.int .i64 1] 25) := ⟨_, rfl⟩
    have HB : Hid (Below w.heap.size w W1) := by show Below _ _ _; rw [hW1]; exact hb.alloc hb.size _
    clear hb
    go_wp2
    rw [← hW1]
    clear hW1
    refine wp_loop_rounds 1 ?_
    rw [rounds_succ]
    go_wp2
    refine wp_loop_rounds 1 ?_
    rw [rounds_succ]
    go_wp2_with fail
    refine (HC.out 1 1 (W1.alloc (Obj.cells #[Value.int .i64 a, Value.int .i64 1, Value.int .i64 1, Value.int .i64 b] 3)) (some ⟨W1.heap.size, 0, none⟩) 4 (sl4 W1 a 1 1 b _) (Nat.le_refl _)).mono ?_
    rintro e w2 ⟨rfl, hb⟩
    have HB2 := Lib.hid ((HB.out.alloc HB.out.size _).trans (hb.mono (by have := HB.out.size; simp; omega)))
    clear hb
    go_wp2
    exact bodyPost_ret (v := .tuple #[.int .i64 0, .int .i64 0, .bool false]) (by simp [results, Try.results50, go_sem]) rfl ⟨by rw [HV.out], HB2.out.alloc HB2.out.size _⟩
  | true =>
    have HE := Lib.hid h
    have HV := Lib.hid (mmV_t h)
    have HP := Lib.hid (fun t ht => mmS_pa h t ht)
    have HQ : Hid (∀ i j : Nat, i ≤ 8 → j ≤ 8 → paP (chNow [a, (i : Int) + 1, (j : Int) + 1, b] 3) = true) := fun i j hi hj => chNow_pa (ch4 i j hi hj h)
    have HS := Lib.hid (fun i j hj => mmS_at a b i j hj)
    have HS0 : Hid (mmS a b 0 = (0, (0, (0, 1)))) := rfl
    have HC : Hid (∀ i j : Nat, i ≤ 8 → j ≤ 8 → ∀ W A c, SlAt intS W A [a, (i : Int) + 1, (j : Int) + 1, b] → 4 ≤ c → Calls Try.prog 42 #[.slice A 4 c] W fun e w' => e = .returned (.tuple #[.agg #[.int .i64 (chNow [a, (i : Int) + 1, (j : Int) + 1, b] 3).1, .int .i64 (chNow [a, (i : Int) + 1, (j : Int) + 1, b] 3).2], .bool true]) ∧ Below W.heap.size W w') := fun i j hi hj W A c hA hc => by
      have := implChainPace_any A c [a, (i : Int) + 1, (j : Int) + 1, b] W (by simp) (by simpa using hc) hA
      rwa [clP_t (ch4 i j hi hj h), ch4 i j hi hj h] at this
    generalize mmV a b = V at *
    generalize mmS a b = S at *
    generalize bmB a b = R at *
    clear h
    go_enter Try.func50, Try.ntmps50
    go_wp2_with fail
    refine (whole_any 0 _).mono ?_
    rintro e w1 ⟨rfl, hb⟩
    have HB := Lib.hid (hb.alloc hb.size (Obj.cells #[Value.int .i64 0, Value.int .i64 1] 25))
    have HF := Lib.hid (PC.start w1 0 1 25)
    have hs1 : w.heap.size ≤ w1.heap.size := hb.size
    clear hb
    go_wp2
    go_loopw [7, 8, 10] (fun s7 s8 m wr => ∃ i : Nat, i ≤ 9 ∧ s7 = .int .i64 (S (9 * i)).1 ∧ s8 = .int .i64 (S (9 * i)).2.1 ∧ m = .int .i64 ((i : Int) + 1) ∧ Below w.heap.size w wr ∧ PC (w1.heap.size) (S (9 * i)).2.2 wr)
      (fun _ _ m _ => 10 - (intOf m).toNat)
    case atStart => exact ⟨0, by omega, by rw [Nat.mul_zero, HS0.out], by rw [Nat.mul_zero, HS0.out], rfl, HB.out, by rw [Nat.mul_zero, HS0.out]; exact HF.out⟩
    case round =>
      obtain ⟨i, hi, rfl, rfl, rfl, hb, hp⟩ := hrel
      have HBo := Lib.hid hb
      have HPo := Lib.hid hp
      by_cases hlt : i ≤ 8
      · have kw : (i : Int) + 1 ≤ 9 := by omega
        have kw1 : IntKind.i64.wrap ((i : Int) + 1 + 1) = (i : Int) + 1 + 1 := IntWalk.i64_in _ (by omega)
        clear hb hp
        obtain ⟨W1, rfl⟩ : ∃ W, W = wr := ⟨_, rfl⟩
        obtain ⟨T0, hT0⟩ : ∃ T0, T0 = 9 * i := ⟨_, rfl⟩
        rw [← hT0] at HPo ⊢
        have HSi : Hid (∀ j, j < 9 → S (T0 + (j + 1)) = if fstB (chNow [a, (i : Int) + 1, (j : Int) + 1, b] 3) (S (T0 + j)).2.2 then ((i : Int) + 1, ((j : Int) + 1, chNow [a, (i : Int) + 1, (j : Int) + 1, b] 3)) else S (T0 + j)) := fun j hj => by rw [hT0]; exact HS.out i j hj
        have HPi : Hid (∀ j, j ≤ 9 → paP (S (T0 + j)).2.2 = true) := fun j hj => HP.out _ (by omega)
        have HTN : Hid (T0 + 9 = 9 * (i + 1)) := by show _ = _; omega
        clear hT0
        obtain ⟨s0, hs0⟩ : ∃ x, S T0 = x := ⟨_, rfl⟩
        have HS0' := Lib.hid hs0
        rw [hs0] at HPo ⊢
        clear hs0
        go_wp2
        go_loopw [7, 8, 11] (fun s7 s8 n wr => ∃ j : Nat, j ≤ 9 ∧ s7 = .int .i64 (S (T0 + j)).1 ∧ s8 = .int .i64 (S (T0 + j)).2.1 ∧ n = .int .i64 ((j : Int) + 1) ∧ Below w.heap.size w wr ∧ PC (w1.heap.size) (S (T0 + j)).2.2 wr)
          (fun _ _ n _ => 10 - (intOf n).toNat)
        case atStart => exact ⟨0, by omega, by rw [Nat.add_zero, HS0'.out], by rw [Nat.add_zero, HS0'.out], rfl, HBo.out, by rw [Nat.add_zero, HS0'.out]; exact HPo.out⟩
        case round =>
          obtain ⟨j, hj, rfl, rfl, rfl, hb2, hp2⟩ := hrel
          have HBr := Lib.hid hb2
          have HPr := Lib.hid hp2
          have hpa := HPi.out j hj
          by_cases hlj : j ≤ 8
          · have HSk := Lib.hid (HSi.out j (by omega))
            have HCk := Lib.hid (HC.out i j hlt hlj)
            have HQk := HQ.out i j hlt hlj
            have jw : (j : Int) + 1 ≤ 9 := by omega
            have jw1 : IntKind.i64.wrap ((j : Int) + 1 + 1) = (j : Int) + 1 + 1 := IntWalk.i64_in _ (by omega)
            obtain ⟨⟨x1, x2⟩, hx⟩ : ∃ x, chNow [a, (i : Int) + 1, (j : Int) + 1, b] 3 = x := ⟨_, rfl⟩
            obtain ⟨⟨s, ⟨s', ⟨y1, y2⟩⟩⟩, hy⟩ : ∃ x, S (T0 + j) = x := ⟨_, rfl⟩
            rw [hx] at HCk HQk HSk
            rw [hy] at HSk hpa HPr
            cases hf : fstB (x1, x2) (y1, y2) with
            | true =>
              have HCMk := Lib.hid (fun w => cmpPaces_any (x1, x2) (y1, y2) w ((smP_sm (smP_of HQk)).up (by decide) (by decide)) ((smP_sm (smP_of hpa)).up (by decide) (by decide)))
              have hcp := cpJ_pos (x1, x2) (y1, y2)
              rw [hf, decide_eq_true_eq] at hcp
              generalize cpJ (x1, x2) (y1, y2) = C at *
              rw [hf, if_pos rfl] at HSk
              simp only at HCk HCMk HSk hpa
              rw [hy]
              clear hx hy hb2 hp2 hf
              simp only
              go_wp2_with fail
              refine (HCk.out (wr.alloc (Obj.cells #[Value.int .i64 a, Value.int .i64 ((i : Int) + 1), Value.int .i64 ((j : Int) + 1), Value.int .i64 b] 3)) (some ⟨wr.heap.size, 0, none⟩) 4 (sl4 wr a ((i : Int) + 1) ((j : Int) + 1) b _) (Nat.le_refl _)).mono ?_
              rintro e w2 ⟨rfl, hb⟩
              have HB2 := Lib.hid ((HBr.out.alloc HBr.out.size (Obj.cells #[Value.int .i64 a, Value.int .i64 ((i : Int) + 1), Value.int .i64 ((j : Int) + 1), Value.int .i64 b] 3)).trans (hb.mono (by have := HBr.out.size; simp; omega)))
              have HP2 := Lib.hid ((HPr.out.grow (Obj.cells #[Value.int .i64 a, Value.int .i64 ((i : Int) + 1), Value.int .i64 ((j : Int) + 1), Value.int .i64 b] 3)).below hb)
              clear hb
              obtain ⟨l2, c0, c1', _, _⟩ := HP2.out.parts
              simp only at c0 c1'
              go_wp2_with fail
              refine (HCMk.out _).mono ?_
              rintro e w3 ⟨rfl, hb⟩
              have HB3 := Lib.hid ((HB2.out.alloc HB2.out.size (Obj.cells #[Value.int .i64 x1, Value.int .i64 x2] 25)).trans (hb.mono (by have := HB2.out.size; simp; omega)))
              have HP3 := Lib.hid ((HP2.out.grow (Obj.cells #[Value.int .i64 x1, Value.int .i64 x2] 25)).below hb)
              have HX3 := Lib.hid ((PC.start w2 x1 x2 25).below hb)
              clear hb
              obtain ⟨l3, c0, c1', _, _⟩ := HP3.out.parts
              obtain ⟨l4, d0, d1, _, _⟩ := HX3.out.parts
              simp only at c0 c1' d0 d1
              go_wp2
              go_region
              go_wp2
              go_roundw
              case rel => exact ⟨j + 1, by omega, by rw [HSk.out], by rw [HSk.out], by congr 1, ((HB3.out.setCell hs1 _).setCell hs1 _).drew, by rw [HSk.out]; exact (HP3.out.set _ _).below (Below.refl _ _).drew⟩
              case measure => simp [intOf]; omega

            | false =>
              have HCMk := Lib.hid (fun w => cmpPaces_any (x1, x2) (y1, y2) w ((smP_sm (smP_of HQk)).up (by decide) (by decide)) ((smP_sm (smP_of hpa)).up (by decide) (by decide)))
              have hcp := cpJ_pos (x1, x2) (y1, y2)
              rw [hf, decide_eq_false_iff_not] at hcp
              generalize cpJ (x1, x2) (y1, y2) = C at *
              rw [hf, if_neg (by simp)] at HSk
              simp only at HCk HCMk HSk hpa
              rw [hy]
              clear hx hy hb2 hp2 hf
              simp only
              go_wp2_with fail
              refine (HCk.out (wr.alloc (Obj.cells #[Value.int .i64 a, Value.int .i64 ((i : Int) + 1), Value.int .i64 ((j : Int) + 1), Value.int .i64 b] 3)) (some ⟨wr.heap.size, 0, none⟩) 4 (sl4 wr a ((i : Int) + 1) ((j : Int) + 1) b _) (Nat.le_refl _)).mono ?_
              rintro e w2 ⟨rfl, hb⟩
              have HB2 := Lib.hid ((HBr.out.alloc HBr.out.size (Obj.cells #[Value.int .i64 a, Value.int .i64 ((i : Int) + 1), Value.int .i64 ((j : Int) + 1), Value.int .i64 b] 3)).trans (hb.mono (by have := HBr.out.size; simp; omega)))
              have HP2 := Lib.hid ((HPr.out.grow (Obj.cells #[Value.int .i64 a, Value.int .i64 ((i : Int) + 1), Value.int .i64 ((j : Int) + 1), Value.int .i64 b] 3)).below hb)
              clear hb
              obtain ⟨l2, c0, c1', _, _⟩ := HP2.out.parts
              simp only at c0 c1'
              go_wp2_with fail
              refine (HCMk.out _).mono ?_
              rintro e w3 ⟨rfl, hb⟩
              have HB3 := Lib.hid ((HB2.out.alloc HB2.out.size (Obj.cells #[Value.int .i64 x1, Value.int .i64 x2] 25)).trans (hb.mono (by have := HB2.out.size; simp; omega)))
              have HP3 := Lib.hid ((HP2.out.grow (Obj.cells #[Value.int .i64 x1, Value.int .i64 x2] 25)).below hb)
              have HX3 := Lib.hid ((PC.start w2 x1 x2 25).below hb)
              clear hb
              obtain ⟨l3, c0, c1', _, _⟩ := HP3.out.parts
              obtain ⟨l4, d0, d1, _, _⟩ := HX3.out.parts
              simp only at c0 c1' d0 d1
              go_wp2
              go_roundw
              case rel => exact ⟨j + 1, by omega, by rw [HSk.out], by rw [HSk.out], by congr 1, HB3.out, by rw [HSk.out]; exact HP3.out⟩
              case measure => simp [intOf]; omega

          · obtain rfl : j = 9 := by omega
            obtain ⟨⟨s, ⟨s', ⟨y1, y2⟩⟩⟩, hy⟩ : ∃ x, S (T0 + 9) = x := ⟨_, rfl⟩
            rw [hy] at HPr ⊢
            have HY := Lib.hid hy
            clear hb2 hp2 hy hpa
            simp only
            go_wp2
            go_roundw
            case rel => exact ⟨i + 1, by omega, by rw [← HTN.out, HY.out], by rw [← HTN.out, HY.out], by congr 1, HBr.out, by rw [← HTN.out, HY.out]; exact HPr.out⟩
            case measure => simp [intOf]; omega
      · obtain rfl : i = 9 := by omega
        obtain ⟨⟨s, ⟨s', ⟨y1, y2⟩⟩⟩, hy⟩ : ∃ x, S (9 * 9) = x := ⟨_, rfl⟩
        rw [hy]
        have HY : Hid (S 81 = (s, (s', (y1, y2)))) := hy
        clear hb hp hy
        simp only
        go_wp2
        exact bodyPost_ret (v := .tuple #[.int .i64 s, .int .i64 s', .bool true]) (by simp [results, Try.results50, go_sem]) rfl ⟨by rw [HV.out, HY.out], HBo.out⟩

end Go.Proofs.Ytikmkmpekjijpaa
