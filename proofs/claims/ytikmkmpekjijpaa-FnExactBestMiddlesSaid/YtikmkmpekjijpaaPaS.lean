/- Balls on both sides: the best two balls between two. Written by gen/pas.py. -/
import Derived.Test.YtikmkmpekjijpaaPaR
namespace Go.Proofs.Ytikmkmpekjijpaa
open Go.RowKit

/-- the best pair among the first t ones, and the pace that they give -/
def mmS (a b : Int) : Nat → Int × (Int × (Int × Int))
  | 0 => (0, (0, (0, 1)))
  | t + 1 => if fstB (chNow [a, ((t / 9 : Nat) : Int) + 1, ((t % 9 : Nat) : Int) + 1, b] 3) (mmS a b t).2.2 then (((t / 9 : Nat) : Int) + 1, (((t % 9 : Nat) : Int) + 1, chNow [a, ((t / 9 : Nat) : Int) + 1, ((t % 9 : Nat) : Int) + 1, b] 3)) else mmS a b t
def mmV (a b : Int) : Int × Int := if bmB a b then ((mmS a b 81).1, (mmS a b 81).2.1) else (0, 0)
theorem ch4 {a b : Int} (i j : Nat) (hi : i ≤ 8) (hj : j ≤ 8) (h : bmB a b = true) : chB [a, (i : Int) + 1, (j : Int) + 1, b] = true := by
  unfold bmB at h
  rw [Bool.and_eq_true, maB_iff, maB_iff] at h
  rw [chB_iff]
  exact ⟨by simp, fun m hm => by simp at hm; rcases hm with rfl | rfl | rfl | rfl <;> omega⟩
theorem ch4_no {a b m n : Int} (h : bmB a b = false) : chB [a, m, n, b] = false := by
  unfold bmB at h
  cases h1 : maB a with
  | false => exact chB_bad (j := 0) (by simp) (by simpa using h1)
  | true =>
    rw [h1, Bool.true_and] at h
    exact chB_bad (j := 3) (by simp) (by simpa using h)
theorem mmS_pa {a b : Int} (h : bmB a b = true) : ∀ t, t ≤ 81 → paP (mmS a b t).2.2 = true := by
  intro t
  induction t with
  | zero => intro _; exact (by decide : paP (0, 1) = true)
  | succ t ih =>
    intro ht
    rw [mmS]
    split
    · have := chNow_pa (ch4 (t / 9) (t % 9) (by omega) (by omega) h)
      simpa using this
    · exact ih (by omega)
theorem mmS_at (a b : Int) (i j : Nat) (hj : j < 9) : mmS a b (9 * i + (j + 1)) = if fstB (chNow [a, (i : Int) + 1, (j : Int) + 1, b] 3) (mmS a b (9 * i + j)).2.2 then ((i : Int) + 1, ((j : Int) + 1, chNow [a, (i : Int) + 1, (j : Int) + 1, b] 3)) else mmS a b (9 * i + j) := by
  rw [show 9 * i + (j + 1) = (9 * i + j) + 1 by omega, mmS, show (9 * i + j) / 9 = i by omega, show (9 * i + j) % 9 = j by omega]
theorem mmV_t {a b : Int} (h : bmB a b = true) : mmV a b = ((mmS a b 81).1, (mmS a b 81).2.1) := by unfold mmV; rw [if_pos h]
theorem mmV_f {a b : Int} (h : bmB a b = false) : mmV a b = (0, 0) := by unfold mmV; rw [h]; rfl
theorem sl4 (w : World) (a b c d : Int) (e : TypeId) : SlAt intS (w.alloc (Obj.cells #[Value.int .i64 a, Value.int .i64 b, Value.int .i64 c, Value.int .i64 d] e)) (some ⟨w.heap.size, 0, none⟩) [a, b, c, d] := by
  refine .inr ⟨w.heap.size, 0, rfl, by simp, fun k x hk j hj => ?_⟩
  have hj0 : j = 0 := by have : j < 1 := hj; omega
  subst hj0
  match k, hk with
  | 0, hk => simp at hk; subst hk; simp [intS]
  | 1, hk => simp at hk; subst hk; simp [intS]
  | 2, hk => simp at hk; subst hk; simp [intS]
  | 3, hk => simp at hk; subst hk; simp [intS]
  | k + 4, hk => simp at hk

set_option maxRecDepth 100000 in
set_option maxHeartbeats 8000000 in
theorem specBestMiddles_any (a b : Int) (w : World) :
    Calls Try.prog 49 #[.int .i64 a, .int .i64 b] w fun e w' => e = .returned (.tuple #[.int .i64 (mmV a b).1, .int .i64 (mmV a b).2, .bool (bmB a b)]) ∧ Below w.heap.size w w' := by
  cases h1 : maB a with
  | false =>
    have hf := bm_f1 (b := b) h1
    have HV := Lib.hid (mmV_f hf)
    have HE := Lib.hid hf
    have H1 := Lib.hid (bMass_at a false h1)
    generalize mmV a b = V at *
    generalize bmB a b = R at *
    clear h1 hf
    go_enter Try.func49, Try.ntmps49
    go_wp2_with fail
    refine (H1.out _).mono ?_
    rintro e w1 ⟨rfl, rfl⟩
    go_wp2
    exact bodyPost_ret (v := .tuple #[.int .i64 0, .int .i64 0, .bool false]) (by simp [results, Try.results49, go_sem]) rfl ⟨by rw [HV.out, HE.out], Below.refl _ _⟩
  | true =>
    cases h2 : maB b with
    | false =>
      have hf := bm_f2 (a := a) h2
      have HV := Lib.hid (mmV_f hf)
      have HE := Lib.hid hf
      have H1 := Lib.hid (bMass_at a true h1)
      have H2 := Lib.hid (bMass_at b false h2)
      generalize mmV a b = V at *
      generalize bmB a b = R at *
      clear h1 h2 hf
      go_enter Try.func49, Try.ntmps49
      go_wp2_with fail
      refine (H1.out _).mono ?_
      rintro e w1 ⟨rfl, rfl⟩
      go_wp2_with fail
      refine (H2.out _).mono ?_
      rintro e w1 ⟨rfl, rfl⟩
      go_wp2
      exact bodyPost_ret (v := .tuple #[.int .i64 0, .int .i64 0, .bool false]) (by simp [results, Try.results49, go_sem]) rfl ⟨by rw [HV.out, HE.out], Below.refl _ _⟩
    | true =>
      have h := bm_t h1 h2
      have HE := Lib.hid h
      have H1 := Lib.hid (bMass_at a true h1)
      have H2 := Lib.hid (bMass_at b true h2)
      have HV := Lib.hid (mmV_t h)
      have HP := Lib.hid (fun t ht => mmS_pa h t ht)
      have HQ : Hid (∀ i j : Nat, i ≤ 8 → j ≤ 8 → paP (chNow [a, (i : Int) + 1, (j : Int) + 1, b] 3) = true) := fun i j hi hj => chNow_pa (ch4 i j hi hj h)
      have HS := Lib.hid (fun i j hj => mmS_at a b i j hj)
      have HS0 : Hid (mmS a b 0 = (0, (0, (0, 1)))) := rfl
      have HC : Hid (∀ i j : Nat, i ≤ 8 → j ≤ 8 → ∀ W A c, SlAt intS W A [a, (i : Int) + 1, (j : Int) + 1, b] → Calls Try.prog 82 #[.slice A 4 c] W fun e w' => ∃ A1 c1, e = .returned (.slice A1 4 c1) ∧ SlOwn pairS w' W.heap.size 25 (.slice A1 4 c1) (chL [a, (i : Int) + 1, (j : Int) + 1, b]) ∧ Below W.heap.size W w') := fun i j hi hj W A c hA => by
        refine (bChain_any A c [a, (i : Int) + 1, (j : Int) + 1, b] W hA (ch4 i j hi hj h)).mono ?_
        rintro e w' ⟨A1, n1, c1, rfl, rfl, ho, hb⟩
        exact ⟨A1, c1, rfl, ho, hb⟩
      have HCL : Hid (∀ i j : Nat, i ≤ 8 → j ≤ 8 → (chL [a, (i : Int) + 1, (j : Int) + 1, b]).length = 4 ∧ (chL [a, (i : Int) + 1, (j : Int) + 1, b]).getD 3 (0, 0) = chNow [a, (i : Int) + 1, (j : Int) + 1, b] 3) := fun i j hi hj => chL_last (ch4 i j hi hj h)
      clear h1 h2
      generalize mmV a b = V at *
      generalize mmS a b = S at *
      generalize bmB a b = R at *
      clear h
      go_enter Try.func49, Try.ntmps49
      go_wp2_with fail
      refine (H1.out _).mono ?_
      rintro e w1 ⟨rfl, rfl⟩
      go_wp2_with fail
      refine (H2.out _).mono ?_
      rintro e w1 ⟨rfl, rfl⟩
      have HB := Lib.hid ((Below.refl w.heap.size w).alloc (Nat.le_refl _) (Obj.cells #[Value.int .i64 0, Value.int .i64 1] 25))
      have HF := Lib.hid (PC.start w 0 1 25)
      have hs1 : w.heap.size ≤ w.heap.size := Nat.le_refl _
      go_wp2
      go_loopw [7, 8, 10] (fun s7 s8 m wr => ∃ i : Nat, i ≤ 9 ∧ s7 = .int .i64 (S (9 * i)).1 ∧ s8 = .int .i64 (S (9 * i)).2.1 ∧ m = .int .i64 ((i : Int) + 1) ∧ Below w.heap.size w wr ∧ PC (w.heap.size) (S (9 * i)).2.2 wr)
        (fun _ _ m _ => 10 - (intOf m).toNat)
      case atStart => exact ⟨0, by omega, by rw [Nat.mul_zero, HS0.out], by rw [Nat.mul_zero, HS0.out], rfl, HB.out, by rw [Nat.mul_zero, HS0.out]; exact HF.out⟩
      case round =>
        obtain ⟨i, hi, rfl, rfl, rfl, hb, hp⟩ := hrel
        have HBo := Lib.hid hb
        have HPo := Lib.hid hp
        by_cases hlt : i ≤ 8
        · have kw : (i : Int) + 1 ≤ 9 := by omega
          have kw1 : IntKind.i64.wrap ((i : Int) + 1 + 1) = (i : Int) + 1 + 1 := IntWalk.i64_in _ (by omega)
          clear hb hp
          obtain ⟨W1, rfl⟩ : ∃ W, W = wr := ⟨_, rfl⟩
          obtain ⟨T0, hT0⟩ : ∃ T0, T0 = 9 * i := ⟨_, rfl⟩
          rw [← hT0] at HPo ⊢
          have HSi : Hid (∀ j, j < 9 → S (T0 + (j + 1)) = if fstB (chNow [a, (i : Int) + 1, (j : Int) + 1, b] 3) (S (T0 + j)).2.2 then ((i : Int) + 1, ((j : Int) + 1, chNow [a, (i : Int) + 1, (j : Int) + 1, b] 3)) else S (T0 + j)) := fun j hj => by rw [hT0]; exact HS.out i j hj
          have HPi : Hid (∀ j, j ≤ 9 → paP (S (T0 + j)).2.2 = true) := fun j hj => HP.out _ (by omega)
          have HTN : Hid (T0 + 9 = 9 * (i + 1)) := by show _ = _; omega
          clear hT0
          obtain ⟨s0, hs0⟩ : ∃ x, S T0 = x := ⟨_, rfl⟩
          have HS0' := Lib.hid hs0
          rw [hs0] at HPo ⊢
          clear hs0
          go_wp2
          go_loopw [7, 8, 11] (fun s7 s8 n wr => ∃ j : Nat, j ≤ 9 ∧ s7 = .int .i64 (S (T0 + j)).1 ∧ s8 = .int .i64 (S (T0 + j)).2.1 ∧ n = .int .i64 ((j : Int) + 1) ∧ Below w.heap.size w wr ∧ PC (w.heap.size) (S (T0 + j)).2.2 wr)
            (fun _ _ n _ => 10 - (intOf n).toNat)
          case atStart => exact ⟨0, by omega, by rw [Nat.add_zero, HS0'.out], by rw [Nat.add_zero, HS0'.out], rfl, HBo.out, by rw [Nat.add_zero, HS0'.out]; exact HPo.out⟩
          case round =>
            obtain ⟨j, hj, rfl, rfl, rfl, hb2, hp2⟩ := hrel
            have HBr := Lib.hid hb2
            have HPr := Lib.hid hp2
            have hpa := HPi.out j hj
            by_cases hlj : j ≤ 8
            · have HSk := Lib.hid (HSi.out j (by omega))
              have HCk := Lib.hid (HC.out i j hlt hlj)
              have HQk := HQ.out i j hlt hlj
              have HCLk := Lib.hid (HCL.out i j hlt hlj)
              have jw : (j : Int) + 1 ≤ 9 := by omega
              have jw1 : IntKind.i64.wrap ((j : Int) + 1 + 1) = (j : Int) + 1 + 1 := IntWalk.i64_in _ (by omega)
              obtain ⟨⟨x1, x2⟩, hx⟩ : ∃ x, chNow [a, (i : Int) + 1, (j : Int) + 1, b] 3 = x := ⟨_, rfl⟩
              obtain ⟨⟨s, ⟨s', ⟨y1, y2⟩⟩⟩, hy⟩ : ∃ x, S (T0 + j) = x := ⟨_, rfl⟩
              rw [hx] at HCLk HQk HSk
              rw [hy] at HSk hpa HPr
              generalize chL [a, (i : Int) + 1, (j : Int) + 1, b] = L at *
              cases hf : fstB (x1, x2) (y1, y2) with
              | true =>
                have HCMk := Lib.hid (fun w => bFaster_at (x1, x2) (y1, y2) true hf w (smP_of HQk) (smP_of hpa))
                rw [hf, if_pos rfl] at HSk
                simp only at HCk HCMk HSk hpa
                rw [hy]
                clear hx hy hb2 hp2 hf
                simp only
                go_wp2_with fail
                refine (HCk.out (wr.alloc (Obj.cells #[Value.int .i64 a, Value.int .i64 ((i : Int) + 1), Value.int .i64 ((j : Int) + 1), Value.int .i64 b] 3)) (some ⟨wr.heap.size, 0, none⟩) 4 (sl4 wr a ((i : Int) + 1) ((j : Int) + 1) b _)).mono ?_
                rintro e w2 ⟨A1, c1, rfl, ho, hb⟩
                obtain ⟨g, off, rfl, _, hcl⟩ := (slAt_ants ho.sl).at_ (show 3 < L.length by rw [HCLk.out.1]; omega)
                obtain ⟨a0, a1⟩ := hcl 3 (by rw [HCLk.out.1]; omega)
                rw [HCLk.out.2] at a0 a1
                simp only at a0 a1
                clear ho hcl
                have HB2 := Lib.hid ((HBr.out.alloc HBr.out.size (Obj.cells #[Value.int .i64 a, Value.int .i64 ((i : Int) + 1), Value.int .i64 ((j : Int) + 1), Value.int .i64 b] 3)).trans (hb.mono (by have := HBr.out.size; simp; omega)))
                have HP2 := Lib.hid ((HPr.out.grow (Obj.cells #[Value.int .i64 a, Value.int .i64 ((i : Int) + 1), Value.int .i64 ((j : Int) + 1), Value.int .i64 b] 3)).below hb)
                clear hb
                obtain ⟨l2, c0, c1', _, _⟩ := HP2.out.parts
                simp only at c0 c1'
                go_wp2_with fail
                refine (HCMk.out _).mono ?_
                rintro e w3 ⟨rfl, hb⟩
                have HB3 := Lib.hid ((HB2.out.alloc HB2.out.size (Obj.cells #[Value.int .i64 x1, Value.int .i64 x2] 25)).trans (hb.mono (by have := HB2.out.size; simp; omega)))
                have HP3 := Lib.hid ((HP2.out.grow (Obj.cells #[Value.int .i64 x1, Value.int .i64 x2] 25)).below hb)
                have HX3 := Lib.hid ((PC.start w2 x1 x2 25).below hb)
                clear hb a0 a1
                obtain ⟨l3, c0, c1', _, _⟩ := HP3.out.parts
                obtain ⟨l4, d0, d1, _, _⟩ := HX3.out.parts
                simp only at c0 c1' d0 d1
                go_wp2
                go_roundw
                case rel => exact ⟨j + 1, by omega, by rw [HSk.out], by rw [HSk.out], by congr 1, (HB3.out.setCell hs1 _).setCell hs1 _, by rw [HSk.out]; exact HP3.out.set _ _⟩
                case measure => simp [intOf]; omega

              | false =>
                have HCMk := Lib.hid (fun w => bFaster_at (x1, x2) (y1, y2) false hf w (smP_of HQk) (smP_of hpa))
                rw [hf, if_neg (by simp)] at HSk
                simp only at HCk HCMk HSk hpa
                rw [hy]
                clear hx hy hb2 hp2 hf
                simp only
                go_wp2_with fail
                refine (HCk.out (wr.alloc (Obj.cells #[Value.int .i64 a, Value.int .i64 ((i : Int) + 1), Value.int .i64 ((j : Int) + 1), Value.int .i64 b] 3)) (some ⟨wr.heap.size, 0, none⟩) 4 (sl4 wr a ((i : Int) + 1) ((j : Int) + 1) b _)).mono ?_
                rintro e w2 ⟨A1, c1, rfl, ho, hb⟩
                obtain ⟨g, off, rfl, _, hcl⟩ := (slAt_ants ho.sl).at_ (show 3 < L.length by rw [HCLk.out.1]; omega)
                obtain ⟨a0, a1⟩ := hcl 3 (by rw [HCLk.out.1]; omega)
                rw [HCLk.out.2] at a0 a1
                simp only at a0 a1
                clear ho hcl
                have HB2 := Lib.hid ((HBr.out.alloc HBr.out.size (Obj.cells #[Value.int .i64 a, Value.int .i64 ((i : Int) + 1), Value.int .i64 ((j : Int) + 1), Value.int .i64 b] 3)).trans (hb.mono (by have := HBr.out.size; simp; omega)))
                have HP2 := Lib.hid ((HPr.out.grow (Obj.cells #[Value.int .i64 a, Value.int .i64 ((i : Int) + 1), Value.int .i64 ((j : Int) + 1), Value.int .i64 b] 3)).below hb)
                clear hb
                obtain ⟨l2, c0, c1', _, _⟩ := HP2.out.parts
                simp only at c0 c1'
                go_wp2_with fail
                refine (HCMk.out _).mono ?_
                rintro e w3 ⟨rfl, hb⟩
                have HB3 := Lib.hid ((HB2.out.alloc HB2.out.size (Obj.cells #[Value.int .i64 x1, Value.int .i64 x2] 25)).trans (hb.mono (by have := HB2.out.size; simp; omega)))
                have HP3 := Lib.hid ((HP2.out.grow (Obj.cells #[Value.int .i64 x1, Value.int .i64 x2] 25)).below hb)
                have HX3 := Lib.hid ((PC.start w2 x1 x2 25).below hb)
                clear hb a0 a1
                obtain ⟨l3, c0, c1', _, _⟩ := HP3.out.parts
                obtain ⟨l4, d0, d1, _, _⟩ := HX3.out.parts
                simp only at c0 c1' d0 d1
                go_wp2
                go_roundw
                case rel => exact ⟨j + 1, by omega, by rw [HSk.out], by rw [HSk.out], by congr 1, HB3.out, by rw [HSk.out]; exact HP3.out⟩
                case measure => simp [intOf]; omega

            · obtain rfl : j = 9 := by omega
              obtain ⟨⟨s, ⟨s', ⟨y1, y2⟩⟩⟩, hy⟩ : ∃ x, S (T0 + 9) = x := ⟨_, rfl⟩
              rw [hy] at HPr ⊢
              have HY := Lib.hid hy
              clear hb2 hp2 hy hpa
              simp only
              go_wp2
              go_roundw
              case rel => exact ⟨i + 1, by omega, by rw [← HTN.out, HY.out], by rw [← HTN.out, HY.out], by congr 1, HBr.out, by rw [← HTN.out, HY.out]; exact HPr.out⟩
              case measure => simp [intOf]; omega
        · obtain rfl : i = 9 := by omega
          obtain ⟨⟨s, ⟨s', ⟨y1, y2⟩⟩⟩, hy⟩ : ∃ x, S (9 * 9) = x := ⟨_, rfl⟩
          rw [hy]
          have HY : Hid (S 81 = (s, (s', (y1, y2)))) := hy
          clear hb hp hy
          simp only
          go_wp2
          exact bodyPost_ret (v := .tuple #[.int .i64 s, .int .i64 s', .bool true]) (by simp [results, Try.results49, go_sem]) rfl ⟨by rw [HV.out, HY.out, HE.out], HBo.out⟩

end Go.Proofs.Ytikmkmpekjijpaa
