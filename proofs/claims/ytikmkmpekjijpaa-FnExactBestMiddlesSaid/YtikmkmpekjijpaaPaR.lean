/- Balls on the model's side: the best ball between two. -/
import Derived.Test.YtikmkmpekjijpaaPaQ
namespace Go.Proofs.Ytikmkmpekjijpaa
open Go.RowKit

theorem bm_mass {a b : Int} (h : bmB a b = true) : maB a = true ∧ maB b = true := by
  unfold bmB at h; rwa [Bool.and_eq_true] at h
set_option maxRecDepth 100000 in
set_option maxHeartbeats 4000000 in
theorem specBestMiddle_any (a b : Int) (w : World) :
    Calls Try.prog 47 #[.int .i64 a, .int .i64 b] w fun e w' => e = .returned (.tuple #[.int .i64 (bmV a b), .bool (bmB a b)]) ∧ Below w.heap.size w w' := by
  cases h1 : maB a with
  | false =>
    have hf := bm_f1 (b := b) h1
    have HV := Lib.hid (bmV_f hf)
    have HE := Lib.hid hf
    have H1 := Lib.hid (bMass_at a false h1)
    generalize bmV a b = V at *
    generalize bmB a b = R at *
    clear h1 hf
    go_enter Try.func47, Try.ntmps47
    go_wp2_with fail
    refine (H1.out _).mono ?_
    rintro e w1 ⟨rfl, rfl⟩
    go_wp2
    exact bodyPost_ret (v := .tuple #[.int .i64 0, .bool false]) (by simp [results, Try.results47, go_sem]) rfl ⟨by rw [HV.out, HE.out], Below.refl _ _⟩
  | true =>
    cases h2 : maB b with
    | false =>
      have hf := bm_f2 (a := a) h2
      have HV := Lib.hid (bmV_f hf)
      have HE := Lib.hid hf
      have H1 := Lib.hid (bMass_at a true h1)
      have H2 := Lib.hid (bMass_at b false h2)
      generalize bmV a b = V at *
      generalize bmB a b = R at *
      clear h1 h2 hf
      go_enter Try.func47, Try.ntmps47
      go_wp2_with fail
      refine (H1.out _).mono ?_
      rintro e w1 ⟨rfl, rfl⟩
      go_wp2_with fail
      refine (H2.out _).mono ?_
      rintro e w1 ⟨rfl, rfl⟩
      go_wp2
      exact bodyPost_ret (v := .tuple #[.int .i64 0, .bool false]) (by simp [results, Try.results47, go_sem]) rfl ⟨by rw [HV.out, HE.out], Below.refl _ _⟩
    | true =>
      have h := bm_t h1 h2
      have H1 := Lib.hid (bMass_at a true h1)
      have H2 := Lib.hid (bMass_at b true h2)
      have HV := Lib.hid (bmV_t h)
      have HP := Lib.hid (fun k hk => bmS_pa h k hk)
      have HC : Hid (∀ k : Nat, k ≤ 8 → ∀ W A c, SlAt intS W A [a, (k : Int) + 1, b] → Calls Try.prog 82 #[.slice A 3 c] W fun e w' => ∃ A1 c1, e = .returned (.slice A1 3 c1) ∧ SlOwn pairS w' W.heap.size 25 (.slice A1 3 c1) (chL [a, (k : Int) + 1, b]) ∧ Below W.heap.size W w') := fun k hk W A c hA => by
        refine (bChain_any A c [a, (k : Int) + 1, b] W hA (ch3 k hk h)).mono ?_
        rintro e w' ⟨A1, n1, c1, rfl, rfl, ho, hb⟩
        exact ⟨A1, c1, rfl, ho, hb⟩
      have HCL : Hid (∀ k : Nat, k ≤ 8 → (chL [a, (k : Int) + 1, b]).length = 3 ∧ (chL [a, (k : Int) + 1, b]).getD 2 (0, 0) = chNow [a, (k : Int) + 1, b] 2) := fun k hk => chL_last (ch3 k hk h)
      have HQ : Hid (∀ k : Nat, k ≤ 8 → paP (chNow [a, (k : Int) + 1, b] 2) = true) := fun k hk => chNow_pa (ch3 k hk h)
      have HS : Hid (∀ k, bmS a b (k + 1) = if fstB (chNow [a, (k : Int) + 1, b] 2) (bmS a b k).2 then ((k : Int) + 1, chNow [a, (k : Int) + 1, b] 2) else bmS a b k) := fun _ => rfl
      have HS0 : Hid (bmS a b 0 = (0, (0, 1))) := rfl
      have HE := Lib.hid h
      generalize bmV a b = V at *
      generalize bmS a b = S at *
      generalize bmB a b = R at *
      clear h h1 h2
      go_enter Try.func47, Try.ntmps47
      go_wp2_with fail
      refine (H1.out _).mono ?_
      rintro e w1 ⟨rfl, rfl⟩
      go_wp2_with fail
      refine (H2.out _).mono ?_
      rintro e w1 ⟨rfl, rfl⟩
      have HB := Lib.hid ((Below.refl w.heap.size w).alloc (Nat.le_refl _) (Obj.cells #[Value.int .i64 0, Value.int .i64 1] 25))
      have HF := Lib.hid (PC.start w 0 1 25)
      go_wp2
      go_loopw [6, 8] (fun bs m wr => ∃ k : Nat, k ≤ 9 ∧ bs = .int .i64 (S k).1 ∧ m = .int .i64 ((k : Int) + 1) ∧ Below w.heap.size w wr ∧ PC w.heap.size (S k).2 wr)
        (fun _ m _ => 10 - (intOf m).toNat)
      case atStart => exact ⟨0, by omega, by rw [HS0.out], rfl, HB.out, by rw [HS0.out]; exact HF.out⟩
      case round =>
        obtain ⟨k, hk, rfl, rfl, hb, hp⟩ := hrel
        have HBr := Lib.hid hb
        have HPr := Lib.hid hp
        have hpa := HP.out k hk
        have HSk := Lib.hid (HS.out k)
        by_cases hlt : k ≤ 8
        · have HCk := Lib.hid (HC.out k hlt)
          have HQk := HQ.out k hlt
          have HCLk := Lib.hid (HCL.out k hlt)
          have kw : (k : Int) + 1 ≤ 9 := by omega
          have kw1 : IntKind.i64.wrap ((k : Int) + 1 + 1) = (k : Int) + 1 + 1 := IntWalk.i64_in _ (by omega)
          obtain ⟨⟨x1, x2⟩, hx⟩ : ∃ x, chNow [a, (k : Int) + 1, b] 2 = x := ⟨_, rfl⟩
          obtain ⟨⟨s, ⟨y1, y2⟩⟩, hy⟩ : ∃ x, S k = x := ⟨_, rfl⟩
          rw [hx] at HCLk HQk HSk
          rw [hy] at HSk hpa HPr
          generalize chL [a, (k : Int) + 1, b] = L at *
          cases hf : fstB (x1, x2) (y1, y2) with
          | true =>
            have HCMk := Lib.hid (fun w => bFaster_at (x1, x2) (y1, y2) true hf w (smP_of HQk) (smP_of hpa.1))
            rw [hf, if_pos rfl] at HSk
            simp only at HCk HCMk HSk hpa
            rw [hy]
            have hs2 := hb.size
            clear hx hy hb hp hf
            simp only
            go_wp2_with fail
            refine (HCk.out (wr.alloc (Obj.cells #[Value.int .i64 a, Value.int .i64 ((k : Int) + 1), Value.int .i64 b] 3)) (some ⟨wr.heap.size, 0, none⟩) 3 (sl3 wr a ((k : Int) + 1) b _)).mono ?_
            rintro e w2 ⟨A1, c1, rfl, ho, hb⟩
            obtain ⟨g, off, rfl, _, hcl⟩ := (slAt_ants ho.sl).at_ (show 2 < L.length by rw [HCLk.out.1]; omega)
            obtain ⟨a0, a1⟩ := hcl 2 (by rw [HCLk.out.1]; omega)
            rw [HCLk.out.2] at a0 a1
            simp only at a0 a1
            have HB2 := Lib.hid ((HBr.out.alloc HBr.out.size (Obj.cells #[Value.int .i64 a, Value.int .i64 ((k : Int) + 1), Value.int .i64 b] 3)).trans (hb.mono (by have := HBr.out.size; simp; omega)))
            have HP2 := Lib.hid ((HPr.out.grow (Obj.cells #[Value.int .i64 a, Value.int .i64 ((k : Int) + 1), Value.int .i64 b] 3)).below hb)
            clear hb ho hcl
            obtain ⟨l2, c0, c1, _, _⟩ := HP2.out.parts
            simp only at c0 c1
            go_wp2_with fail
            refine (HCMk.out _).mono ?_
            rintro e w3 ⟨rfl, hb⟩
            have HB3 := Lib.hid ((HB2.out.alloc HB2.out.size (Obj.cells #[Value.int .i64 x1, Value.int .i64 x2] 25)).trans (hb.mono (by have := HB2.out.size; simp; omega)))
            have HP3 := Lib.hid ((HP2.out.grow (Obj.cells #[Value.int .i64 x1, Value.int .i64 x2] 25)).below hb)
            have HX3 := Lib.hid ((PC.start w2 x1 x2 25).below hb)
            clear hb a0 a1
            obtain ⟨l3, c0, c1, _, _⟩ := HP3.out.parts
            obtain ⟨l4, d0, d1, _, _⟩ := HX3.out.parts
            simp only at c0 c1 d0 d1
            go_wp2
            go_roundw
            case rel => exact ⟨k + 1, by omega, by rw [HSk.out], by congr 1, (HB3.out.setCell (Nat.le_refl _) _).setCell (Nat.le_refl _) _, by rw [HSk.out]; exact HP3.out.set _ _⟩
            case measure => simp [intOf]; omega
          | false =>
            have HCMk := Lib.hid (fun w => bFaster_at (x1, x2) (y1, y2) false hf w (smP_of HQk) (smP_of hpa.1))
            rw [hf, if_neg (by simp)] at HSk
            have HY := Lib.hid hy
            simp only at HCk HCMk HSk hpa
            rw [hy]
            have hs2 := hb.size
            clear hx hy hb hp hf
            simp only
            go_wp2_with fail
            refine (HCk.out (wr.alloc (Obj.cells #[Value.int .i64 a, Value.int .i64 ((k : Int) + 1), Value.int .i64 b] 3)) (some ⟨wr.heap.size, 0, none⟩) 3 (sl3 wr a ((k : Int) + 1) b _)).mono ?_
            rintro e w2 ⟨A1, c1, rfl, ho, hb⟩
            obtain ⟨g, off, rfl, _, hcl⟩ := (slAt_ants ho.sl).at_ (show 2 < L.length by rw [HCLk.out.1]; omega)
            obtain ⟨a0, a1⟩ := hcl 2 (by rw [HCLk.out.1]; omega)
            rw [HCLk.out.2] at a0 a1
            simp only at a0 a1
            have HB2 := Lib.hid ((HBr.out.alloc HBr.out.size (Obj.cells #[Value.int .i64 a, Value.int .i64 ((k : Int) + 1), Value.int .i64 b] 3)).trans (hb.mono (by have := HBr.out.size; simp; omega)))
            have HP2 := Lib.hid ((HPr.out.grow (Obj.cells #[Value.int .i64 a, Value.int .i64 ((k : Int) + 1), Value.int .i64 b] 3)).below hb)
            clear hb ho hcl
            obtain ⟨l2, c0, c1, _, _⟩ := HP2.out.parts
            simp only at c0 c1
            go_wp2_with fail
            refine (HCMk.out _).mono ?_
            rintro e w3 ⟨rfl, hb⟩
            have HB3 := Lib.hid ((HB2.out.alloc HB2.out.size (Obj.cells #[Value.int .i64 x1, Value.int .i64 x2] 25)).trans (hb.mono (by have := HB2.out.size; simp; omega)))
            have HP3 := Lib.hid ((HP2.out.grow (Obj.cells #[Value.int .i64 x1, Value.int .i64 x2] 25)).below hb)
            clear hb a0 a1
            go_wp2
            go_roundw
            case rel => exact ⟨k + 1, by omega, by rw [HSk.out], by congr 1, HB3.out, by rw [HSk.out]; exact HP3.out⟩
            case measure => simp [intOf]; omega
        · obtain rfl : k = 9 := by omega
          obtain ⟨⟨s, ⟨y1, y2⟩⟩, hy⟩ : ∃ x, S 9 = x := ⟨_, rfl⟩
          rw [hy] at hpa ⊢
          have HY := Lib.hid hy
          clear hb hp hy
          simp only at hpa ⊢
          go_wp2
          exact bodyPost_ret (v := .tuple #[.int .i64 s, .bool true]) (by simp [results, Try.results47, go_sem]) rfl ⟨by rw [HV.out, HY.out, HE.out], HBr.out⟩
end Go.Proofs.Ytikmkmpekjijpaa
