/- Balls on both sides: the best ball between two. -/
import Derived.Test.YtikmkmpekjijpaaPaO
namespace Go.Proofs.Ytikmkmpekjijpaa
open Go.RowKit

/-- the best one of the first k masses, and the pace that it gives -/
def bmS (a b : Int) : Nat → Int × (Int × Int)
  | 0 => (0, (0, 1))
  | k + 1 => if fstB (chNow [a, (k : Int) + 1, b] 2) (bmS a b k).2 then ((k : Int) + 1, chNow [a, (k : Int) + 1, b] 2) else bmS a b k
def bmV (a b : Int) : Int := if bmB a b then (bmS a b 9).1 else 0
theorem ch3 {a b : Int} (k : Nat) (hk : k ≤ 8) (h : bmB a b = true) : chB [a, (k : Int) + 1, b] = true := by
  unfold bmB at h
  rw [Bool.and_eq_true, maB_iff, maB_iff] at h
  rw [chB_iff]
  exact ⟨by simp, fun m hm => by simp at hm; rcases hm with rfl | rfl | rfl <;> omega⟩
theorem ch3_no {a b m : Int} (h : bmB a b = false) : chB [a, m, b] = false := by
  unfold bmB at h
  cases h1 : maB a with
  | false => exact chB_bad (j := 0) (by simp) (by simpa using h1)
  | true =>
    rw [h1, Bool.true_and] at h
    exact chB_bad (j := 2) (by simp) (by simpa using h)
theorem chNow_pa {l : List Int} (h : chB l = true) : paP (chNow l (l.length - 1)) = true := by
  obtain ⟨⟨h2, h5⟩, hm⟩ := (chB_iff l).1 h
  obtain ⟨k, hk⟩ : ∃ k, l.length = k + 2 := ⟨l.length - 2, by omega⟩
  have hat : ∀ j, j < l.length → 1 ≤ l.getD j 0 ∧ l.getD j 0 ≤ 9 := fun j hj => hm _ (getD_mem hj)
  have hc := (chain_pre (ms := l) (k + 1) (by omega) (fun j hj _ => hat j (by omega))).2 k (by omega)
  rw [hk, show k + 2 - 1 = k + 1 by omega, chNow]
  exact (clV_pa hc).2
theorem bmS_pa {a b : Int} (h : bmB a b = true) : ∀ k, k ≤ 9 → paP (bmS a b k).2 = true ∧ 0 ≤ (bmS a b k).1 ∧ (bmS a b k).1 ≤ 9 := by
  intro k
  induction k with
  | zero => intro _; exact ⟨(by decide : paP (0, 1) = true), by simp [bmS], by simp [bmS]⟩
  | succ k ih =>
    intro hk
    rw [bmS]
    split
    · have := chNow_pa (ch3 k (by omega) h)
      exact ⟨by simpa using this, by simp only; omega, by simp only; omega⟩
    · exact ih (by omega)
theorem bmV_t {a b : Int} (h : bmB a b = true) : bmV a b = (bmS a b 9).1 := by unfold bmV; rw [if_pos h]
theorem bmV_f {a b : Int} (h : bmB a b = false) : bmV a b = 0 := by unfold bmV; rw [h]; rfl
theorem sl3 (w : World) (a b c : Int) (e : TypeId) : SlAt intS (w.alloc (Obj.cells #[Value.int .i64 a, Value.int .i64 b, Value.int .i64 c] e)) (some ⟨w.heap.size, 0, none⟩) [a, b, c] := by
  refine .inr ⟨w.heap.size, 0, rfl, by simp, fun k x hk j hj => ?_⟩
  have hj0 : j = 0 := by have : j < 1 := hj; omega
  subst hj0
  match k, hk with
  | 0, hk => simp at hk; subst hk; simp [intS]
  | 1, hk => simp at hk; subst hk; simp [intS]
  | 2, hk => simp at hk; subst hk; simp [intS]
  | k + 3, hk => simp at hk

set_option maxRecDepth 100000 in
set_option maxHeartbeats 4000000 in
theorem implBestMiddle_any (a b : Int) (w : World) :
    Calls Try.prog 48 #[.int .i64 a, .int .i64 b] w fun e w' => e = .returned (.tuple #[.int .i64 (bmV a b), .bool (bmB a b)]) ∧ Below w.heap.size w w' := by
  cases h : bmB a b with
  | false =>
    have HV := Lib.hid (bmV_f h)
    have HC : Hid (∀ m, ∀ W A c, SlAt intS W A [a, m, b] → 3 ≤ c → Calls Try.prog 42 #[.slice A 3 c] W fun e w' => e = .returned (.tuple #[.agg #[.int .i64 0, .int .i64 0], .bool false]) ∧ Below W.heap.size W w') := fun m W A c hA hc => by
      have := implChainPace_any A c [a, m, b] W (by simp) (by simpa using hc) hA
      rwa [clP_f (ch3_no h), ch3_no h] at this
    generalize bmV a b = V at *
    clear h
    go_enter Try.func48, Try.ntmps48
    go_wp2_with fail
    refine (whole_any 0 _).mono ?_
    rintro e w1 ⟨rfl, hb⟩
    obtain ⟨W1, hW1⟩ : ∃ X, X = w1.alloc (Obj.cells #[Value.int .i64 0, Value.int .i64 1] 25) := ⟨_, rfl⟩
    have HB : Hid (Below w.heap.size w W1) := by show Below _ _ _; rw [hW1]; exact hb.alloc hb.size _
    clear hb
    go_wp2
    rw [← hW1]
    clear hW1
    refine wp_loop_rounds 1 ?_
    rw [rounds_succ]
    go_wp2_with fail
    refine (HC.out 1 (W1.alloc (Obj.cells #[Value.int .i64 a, Value.int .i64 1, Value.int .i64 b] 3)) (some ⟨W1.heap.size, 0, none⟩) 3 (sl3 W1 a 1 b _) (Nat.le_refl _)).mono ?_
    rintro e w2 ⟨rfl, hb⟩
    have HB2 := Lib.hid ((HB.out.alloc HB.out.size _).trans (hb.mono (by have := HB.out.size; simp; omega)))
    clear hb
    go_wp2
    exact bodyPost_ret (v := .tuple #[.int .i64 0, .bool false]) (by simp [results, Try.results48, go_sem]) rfl ⟨by rw [HV.out], HB2.out.alloc HB2.out.size _⟩
  | true =>
    have HV := Lib.hid (bmV_t h)
    have HP := Lib.hid (fun k hk => bmS_pa h k hk)
    have HC : Hid (∀ k : Nat, k ≤ 8 → ∀ W A c, SlAt intS W A [a, (k : Int) + 1, b] → 3 ≤ c → Calls Try.prog 42 #[.slice A 3 c] W fun e w' => e = .returned (.tuple #[.agg #[.int .i64 (chNow [a, (k : Int) + 1, b] 2).1, .int .i64 (chNow [a, (k : Int) + 1, b] 2).2], .bool true]) ∧ Below W.heap.size W w') := fun k hk W A c hA hc => by
      have := implChainPace_any A c [a, (k : Int) + 1, b] W (by simp) (by simpa using hc) hA
      rwa [clP_t (ch3 k hk h), ch3 k hk h] at this
    have HQ : Hid (∀ k : Nat, k ≤ 8 → paP (chNow [a, (k : Int) + 1, b] 2) = true) := fun k hk => chNow_pa (ch3 k hk h)
    have HS : Hid (∀ k, bmS a b (k + 1) = if fstB (chNow [a, (k : Int) + 1, b] 2) (bmS a b k).2 then ((k : Int) + 1, chNow [a, (k : Int) + 1, b] 2) else bmS a b k) := fun _ => rfl
    have HS0 : Hid (bmS a b 0 = (0, (0, 1))) := rfl
    have HCM : Hid (∀ x y w, paP x = true → paP y = true → Calls Try.prog 69 #[.agg #[.int .i64 x.1, .int .i64 x.2], .agg #[.int .i64 y.1, .int .i64 y.2]] w fun e w' => e = .returned (.int .i64 (cpJ x y)) ∧ Below w.heap.size w w') := fun x y w hx hy =>
      cmpPaces_any _ _ w ((smP_sm (smP_of hx)).up (by decide) (by decide)) ((smP_sm (smP_of hy)).up (by decide) (by decide))
    generalize bmV a b = V at *
    generalize bmS a b = S at *
    clear h
    go_enter Try.func48, Try.ntmps48
    go_wp2_with fail
    refine (whole_any 0 _).mono ?_
    rintro e w1 ⟨rfl, hb⟩
    have HB := Lib.hid (hb.alloc hb.size (Obj.cells #[Value.int .i64 0, Value.int .i64 1] 25))
    have HF := Lib.hid (PC.start w1 0 1 25)
    have hs1 := hb.size
    clear hb
    go_wp2
    go_loopw [6, 8] (fun bs m wr => ∃ k : Nat, k ≤ 9 ∧ bs = .int .i64 (S k).1 ∧ m = .int .i64 ((k : Int) + 1) ∧ Below w.heap.size w wr ∧ PC w1.heap.size (S k).2 wr)
      (fun _ m _ => 10 - (intOf m).toNat)
    case atStart => exact ⟨0, by omega, by rw [HS0.out], rfl, HB.out, by rw [HS0.out]; exact HF.out⟩
    case round =>
      obtain ⟨k, hk, rfl, rfl, hb, hp⟩ := hrel
      have HBr := Lib.hid hb
      have HPr := Lib.hid hp
      have hpa := HP.out k hk
      have HSk := Lib.hid (HS.out k)
      by_cases hlt : k ≤ 8
      · have HCk := Lib.hid (HC.out k hlt)
        have HQk := HQ.out k hlt
        have kw : (k : Int) + 1 ≤ 9 := by omega
        have kw1 : IntKind.i64.wrap ((k : Int) + 1 + 1) = (k : Int) + 1 + 1 := IntWalk.i64_in _ (by omega)
        obtain ⟨⟨x1, x2⟩, hx⟩ : ∃ x, chNow [a, (k : Int) + 1, b] 2 = x := ⟨_, rfl⟩
        obtain ⟨⟨s, ⟨y1, y2⟩⟩, hy⟩ : ∃ x, S k = x := ⟨_, rfl⟩
        rw [hx] at HCk HQk HSk
        rw [hy] at HSk hpa HPr
        have HCMk := Lib.hid (fun w => HCM.out (x1, x2) (y1, y2) w HQk hpa.1)
        have hcp := cpJ_pos (x1, x2) (y1, y2)
        simp only at HCk HCMk HSk hpa
        have HY := Lib.hid hy
        rw [hy]
        have hs2 := hb.size
        clear hx hy hb hp
        simp only
        generalize cpJ (x1, x2) (y1, y2) = C at *
        go_wp2_with fail
        refine (HCk.out (wr.alloc (Obj.cells #[Value.int .i64 a, Value.int .i64 ((k : Int) + 1), Value.int .i64 b] 3)) (some ⟨wr.heap.size, 0, none⟩) 3 (sl3 wr a ((k : Int) + 1) b _) (Nat.le_refl _)).mono ?_
        rintro e w2 ⟨rfl, hb⟩
        have HB2 := Lib.hid ((HBr.out.alloc HBr.out.size (Obj.cells #[Value.int .i64 a, Value.int .i64 ((k : Int) + 1), Value.int .i64 b] 3)).trans (hb.mono (by have := HBr.out.size; simp; omega)))
        have HP2 := Lib.hid ((HPr.out.grow (Obj.cells #[Value.int .i64 a, Value.int .i64 ((k : Int) + 1), Value.int .i64 b] 3)).below hb)
        clear hb
        obtain ⟨l2, c0, c1, _, _⟩ := HP2.out.parts
        simp only at c0 c1
        go_wp2_with fail
        refine (HCMk.out _).mono ?_
        rintro e w3 ⟨rfl, hb⟩
        have HB3 := Lib.hid ((HB2.out.alloc HB2.out.size (Obj.cells #[Value.int .i64 x1, Value.int .i64 x2] 25)).trans (hb.mono (by have := HB2.out.size; simp; omega)))
        have HP3 := Lib.hid ((HP2.out.grow (Obj.cells #[Value.int .i64 x1, Value.int .i64 x2] 25)).below hb)
        have HX3 := Lib.hid ((PC.start w2 x1 x2 25).below hb)
        clear hb
        obtain ⟨l3, c0, c1, _, _⟩ := HP3.out.parts
        obtain ⟨l4, d0, d1, _, _⟩ := HX3.out.parts
        simp only at c0 c1 d0 d1
        cases hf : fstB (x1, x2) (y1, y2) with
        | true =>
          rw [hf, decide_eq_true_eq] at hcp
          rw [hf, if_pos rfl] at HSk
          clear hf
          go_wp2
          go_region
          go_wp2
          go_roundw
          case rel => exact ⟨k + 1, by omega, by rw [HSk.out], by congr 1, ((HB3.out.setCell hs1 _).setCell hs1 _).drew, by rw [HSk.out]; exact (HP3.out.set _ _).below (Below.refl _ _).drew⟩
          case measure => simp [intOf]; omega
        | false =>
          rw [hf, decide_eq_false_iff_not] at hcp
          rw [hf, if_neg (by simp)] at HSk
          clear hf
          go_wp2
          go_roundw
          case rel => exact ⟨k + 1, by omega, by rw [HSk.out], by congr 1, HB3.out, by rw [HSk.out]; exact HP3.out⟩
          case measure => simp [intOf]; omega
      · obtain rfl : k = 9 := by omega
        obtain ⟨⟨s, ⟨y1, y2⟩⟩, hy⟩ : ∃ x, S 9 = x := ⟨_, rfl⟩
        rw [hy] at hpa ⊢
        have HY := Lib.hid hy
        clear hb hp hy
        simp only at hpa ⊢
        go_wp2
        exact bodyPost_ret (v := .tuple #[.int .i64 s, .bool true]) (by simp [results, Try.results48, go_sem]) rfl ⟨by rw [HV.out, HY.out], HBr.out⟩
end Go.Proofs.Ytikmkmpekjijpaa
