/- Balls on the program's side: the height behind so many bounces, the first bounce below a part. -/
import Derived.Test.YtikmkmpekjijpaaPaM
namespace Go.Proofs.Ytikmkmpekjijpaa
open Go.RowKit

theorem ha_out {p : Int × Int} {b : Int} (h : ¬ (0 ≤ b ∧ b ≤ 20)) : haV p b = (0, 0) ∧ haOk p b = false :=
  ha_f (haB_f2 (by rw [← Bool.not_eq_true, Bool.and_eq_true, decide_eq_true_eq, decide_eq_true_eq]; exact h))
theorem ha_in {p : Int × Int} {k : Nat} (h : keB p = true) (hk : k ≤ 20) : haV p (k : Int) = (if k < hgN p then hgV p k else (0, 0)) ∧ haOk p (k : Int) = decide (k < hgN p) := by
  obtain ⟨e1, e2⟩ := ha_t (p := p) (b := (k : Int)) (haB_t h (by simp; omega))
  rw [e1, e2, Int.toNat_natCast, hgOk_iff h k]
  refine ⟨?_, rfl⟩
  unfold heV
  rw [hgOk_iff h k]
  by_cases hk : k < hgN p
  · simp [hk]
  · simp [hk]

set_option maxRecDepth 100000 in
set_option maxHeartbeats 2000000 in
theorem implHeightAfter_any (p : Int × Int) (b : Int) (w : World) :
    Calls Try.prog 52 #[.agg #[.int .i64 p.1, .int .i64 p.2], .int .i64 b] w fun e w' =>
      e = .returned (.tuple #[.agg #[.int .i64 (haV p b).1, .int .i64 (haV p b).2], .bool (haOk p b)]) ∧ Below w.heap.size w w' := by
  cases h1 : keB p with
  | false =>
    have HV := Lib.hid (ha_f (haB_f1 (b := b) (lo := 0) h1))
    have H1 := Lib.hid (isKept_at p false h1)
    generalize haV p b = V at *
    generalize haOk p b = R at *
    clear h1
    obtain ⟨p1, p2⟩ := p
    simp only at H1 ⊢
    go_enter Try.func52, Try.ntmps52
    go_wp2_with fail
    refine (H1.out _).mono ?_
    rintro e w1 ⟨rfl, hb⟩
    obtain ⟨s, c0, c1, f0, f1⟩ := ((PZ.start2 w _ 25).below hb).parts
    have HB := Lib.hid ((Below.two w _ _).trans (hb.mono (by simp; omega)))
    clear hb
    go_wp2
    exact bodyPost_ret (v := .tuple #[.agg #[.int .i64 0, .int .i64 0], .bool false]) (by simp [results, Try.results52, go_sem, c0, c1]) rfl ⟨by rw [HV.out.1, HV.out.2], below_set2 HB.out _ _ (by omega)⟩
  | true =>
    have H1 := Lib.hid (isKept_at p true h1)
    by_cases hb1 : 0 ≤ b
    · by_cases hb2 : b ≤ 20
      · obtain ⟨k, rfl⟩ : ∃ k : Nat, b = (k : Int) := ⟨b.toNat, by omega⟩
        have HV := Lib.hid (ha_in h1 (show k ≤ 20 by omega))
        have HH := Lib.hid (fun w => heightsOf_any p w h1)
        have hN := (hgN_spec h1).2.2.2
        by_cases hk : k < hgN p
        · rw [if_pos hk, decide_eq_true hk] at HV
          have HLA := Lib.hid (hgL_at p hk)
          have HLL := Lib.hid (hgL_len p (hgN p))
          generalize haV p (k : Int) = V at *
          generalize haOk p (k : Int) = R at *
          generalize hgN p = N at *
          generalize hgL p N = L at *
          generalize hgV p k = X at *
          clear h1
          obtain ⟨p1, p2⟩ := p
          obtain ⟨x1, x2⟩ := X
          simp only at H1 HH ⊢
          have hq1 : ¬ (k : Int) < 0 := by omega
          have hq2 : ¬ (20 : Int) < (k : Int) := by omega
          have hq3 : ¬ (N : Int) ≤ (k : Int) := by omega
          have hq4 : (k : Int) < (N : Int) := by omega
          go_enter Try.func52, Try.ntmps52
          go_wp2_with fail
          refine (H1.out _).mono ?_
          rintro e w1 ⟨rfl, hb⟩
          have HK := Lib.hid (((PC.start w p1 p2 25).grow _).below hb)
          have HZ := Lib.hid ((PZ.start2 w _ 25).below hb)
          obtain ⟨_, k0, k1, _, _⟩ := HK.out.parts
          simp only at k0 k1
          have HB := Lib.hid ((Below.two w _ _).trans (hb.mono (by simp; omega)))
          clear hb
          go_wp2_with fail
          refine (HH.out _).mono ?_
          rintro e w2 ⟨A, n, c, rfl, rfl, ho, hb⟩
          obtain ⟨s, c0, c1, f0, f1⟩ := (HZ.out.below hb).parts
          have HB2 := Lib.hid (HB.out.trans (hb.mono HB.out.size))
          obtain ⟨bb, off, rfl, l0, hcl⟩ := (slAt_ants ho.sl).at_ (show k < L.length by rw [HLL.out]; exact hk)
          obtain ⟨a0, a1⟩ := hcl k (by rw [HLL.out]; exact hk)
          rw [HLA.out] at a0 a1
          simp only at a0 a1
          clear hb ho hcl
          go_wp2
          exact bodyPost_ret (v := .tuple #[.agg #[.int .i64 x1, .int .i64 x2], .bool true]) (by simp [results, Try.results52, go_sem, c0, c1]) rfl ⟨by rw [HV.out.1, HV.out.2], below_set2 HB2.out _ _ (by omega)⟩
        · rw [if_neg hk, decide_eq_false hk] at HV
          generalize haV p (k : Int) = V at *
          generalize haOk p (k : Int) = R at *
          generalize hgN p = N at *
          generalize hgL p N = L at *
          clear h1
          obtain ⟨p1, p2⟩ := p
          simp only at H1 HH ⊢
          have hq1 : ¬ (k : Int) < 0 := by omega
          have hq2 : ¬ (20 : Int) < (k : Int) := by omega
          have hq3 : (N : Int) ≤ (k : Int) := by omega
          go_enter Try.func52, Try.ntmps52
          go_wp2_with fail
          refine (H1.out _).mono ?_
          rintro e w1 ⟨rfl, hb⟩
          have HK := Lib.hid (((PC.start w p1 p2 25).grow _).below hb)
          have HZ := Lib.hid ((PZ.start2 w _ 25).below hb)
          obtain ⟨_, k0, k1, _, _⟩ := HK.out.parts
          simp only at k0 k1
          have HB := Lib.hid ((Below.two w _ _).trans (hb.mono (by simp; omega)))
          clear hb
          go_wp2_with fail
          refine (HH.out _).mono ?_
          rintro e w2 ⟨A, n, c, rfl, rfl, ho, hb⟩
          obtain ⟨s, c0, c1, f0, f1⟩ := (HZ.out.below hb).parts
          have HB2 := Lib.hid (HB.out.trans (hb.mono HB.out.size))
          clear hb ho
          go_wp2
          exact bodyPost_ret (v := .tuple #[.agg #[.int .i64 0, .int .i64 0], .bool false]) (by simp [results, Try.results52, go_sem, c0, c1]) rfl ⟨by rw [HV.out.1, HV.out.2], below_set2 HB2.out _ _ (by omega)⟩
      · have HV := Lib.hid (ha_out (p := p) (b := b) (by omega))
        generalize haV p b = V at *
        generalize haOk p b = R at *
        clear h1
        obtain ⟨p1, p2⟩ := p
        simp only at H1 ⊢
        have hq1 : ¬ b < 0 := by omega
        have hq2 : 20 < b := by omega
        go_enter Try.func52, Try.ntmps52
        go_wp2_with fail
        refine (H1.out _).mono ?_
        rintro e w1 ⟨rfl, hb⟩
        obtain ⟨s, c0, c1, f0, f1⟩ := ((PZ.start2 w _ 25).below hb).parts
        have HB := Lib.hid ((Below.two w _ _).trans (hb.mono (by simp; omega)))
        clear hb
        go_wp2
        exact bodyPost_ret (v := .tuple #[.agg #[.int .i64 0, .int .i64 0], .bool false]) (by simp [results, Try.results52, go_sem, c0, c1]) rfl ⟨by rw [HV.out.1, HV.out.2], below_set2 HB.out _ _ (by omega)⟩
    · have HV := Lib.hid (ha_out (p := p) (b := b) (by omega))
      generalize haV p b = V at *
      generalize haOk p b = R at *
      clear h1
      obtain ⟨p1, p2⟩ := p
      simp only at H1 ⊢
      have hq1 : b < 0 := by omega
      go_enter Try.func52, Try.ntmps52
      go_wp2_with fail
      refine (H1.out _).mono ?_
      rintro e w1 ⟨rfl, hb⟩
      obtain ⟨s, c0, c1, f0, f1⟩ := ((PZ.start2 w _ 25).below hb).parts
      have HB := Lib.hid ((Below.two w _ _).trans (hb.mono (by simp; omega)))
      clear hb
      go_wp2
      exact bodyPost_ret (v := .tuple #[.agg #[.int .i64 0, .int .i64 0], .bool false]) (by simp [results, Try.results52, go_sem, c0, c1]) rfl ⟨by rw [HV.out.1, HV.out.2], below_set2 HB.out _ _ (by omega)⟩

/-! ### the first bounce below a part -/
theorem beF_at {p q : Int × Int} (h : keB p = true) (k : Nat) (hk : k ≤ 20) : beF p q (21 - k) k = if k < hgN p then (if fstB q (hgV p k) then ((k : Int), true) else beF p q (21 - (k + 1)) (k + 1)) else (0, false) := by
  rw [show 21 - k = (20 - k) + 1 by omega, beF, show 20 - k = 21 - (k + 1) by omega, hgOk_iff h k]
  by_cases hk : k < hgN p <;> simp [hk]
set_option maxRecDepth 100000 in
set_option maxHeartbeats 4000000 in
theorem implBouncesBelow_any (p q : Int × Int) (w : World) :
    Calls Try.prog 54 #[.agg #[.int .i64 p.1, .int .i64 p.2], .agg #[.int .i64 q.1, .int .i64 q.2]] w fun e w' =>
      e = .returned (.tuple #[.int .i64 (beR p q).1, .bool (beR p q).2]) ∧ Below w.heap.size w w' := by
  cases h1 : keB p with
  | false =>
    have HV := Lib.hid (be_f1 (q := q) h1)
    have H1 := Lib.hid (isKept_at p false h1)
    generalize beR p q = V at *
    clear h1
    obtain ⟨p1, p2⟩ := p
    obtain ⟨q1, q2⟩ := q
    simp only at H1 ⊢
    go_enter Try.func54, Try.ntmps54
    go_wp2_with fail
    refine (H1.out _).mono ?_
    rintro e w1 ⟨rfl, hb⟩
    have HB := Lib.hid ((Below.two w _ _).trans (hb.mono (by simp; omega)))
    clear hb
    go_wp2
    exact bodyPost_ret (v := .tuple #[.int .i64 0, .bool false]) (by simp [results, Try.results54, go_sem]) rfl ⟨by rw [HV.out], HB.out⟩
  | true =>
    have H1 := Lib.hid (isKept_at p true h1)
    cases h2 : paB q.1 q.2 with
    | false =>
      have HV := Lib.hid (be_f2 (p := p) h2)
      have H2 := Lib.hid (isPace_at q.1 q.2 false h2)
      generalize beR p q = V at *
      clear h1 h2
      obtain ⟨p1, p2⟩ := p
      obtain ⟨q1, q2⟩ := q
      simp only at H1 H2 ⊢
      go_enter Try.func54, Try.ntmps54
      go_wp2_with fail
      refine (H1.out _).mono ?_
      rintro e w1 ⟨rfl, hb⟩
      obtain ⟨_, d0, d1, _, _⟩ := ((PC.at1 w _ q1 q2 25).below hb).parts
      simp only at d0 d1
      have HB := Lib.hid ((Below.two w _ _).trans (hb.mono (by simp; omega)))
      clear hb
      go_wp2_with fail
      refine (H2.out _).mono ?_
      rintro e w2 ⟨rfl, hb⟩
      have HB2 := Lib.hid (HB.out.trans (hb.mono HB.out.size))
      clear hb
      go_wp2
      exact bodyPost_ret (v := .tuple #[.int .i64 0, .bool false]) (by simp [results, Try.results54, go_sem]) rfl ⟨by rw [HV.out], HB2.out⟩
    | true =>
      have H2 := Lib.hid (isPace_at q.1 q.2 true h2)
      by_cases h3 : 0 < q.1 ∧ q.1 ≤ q.2
      · have HV := Lib.hid (be_t h1 h2 h3)
        have HF := Lib.hid (fun k hk => beF_at (q := q) h1 k hk)
        have HH := Lib.hid (fun w => heightsOf_any p w h1)
        have hN := (hgN_spec h1).2.2.2
        have hqs := smP_of (u := q) h2
        have HC : Hid (∀ k, k < hgN p → ∀ w, Calls Try.prog 69 #[.agg #[.int .i64 (hgV p k).1, .int .i64 (hgV p k).2], .agg #[.int .i64 q.1, .int .i64 q.2]] w fun e w' => e = .returned (.int .i64 (cpJ (hgV p k) q)) ∧ Below w.heap.size w w') := fun k hk w =>
          cmpPaces_any _ _ w ((smP_sm (smP_of (hg_pow h1 k ((hgN_spec h1).2.1 k hk)).2.1)).up (by decide) (by decide)) ((smP_sm hqs).up (by decide) (by decide))
        have HCN : Hid (∀ k, decide (cpJ (hgV p k) q < 0) = fstB q (hgV p k)) := fun k => cpJ_neg _ _
        have HLA : Hid (∀ k, k < hgN p → (hgL p (hgN p)).getD k (0, 0) = hgV p k) := fun k hk => hgL_at p hk
        have HLL := Lib.hid (hgL_len p (hgN p))
        generalize beR p q = V at *
        generalize beF p q = B at *
        generalize hgN p = N at *
        generalize hgL p N = L at *
        generalize hgV p = G at *
        clear h1 h2 hqs
        obtain ⟨p1, p2⟩ := p
        obtain ⟨q1, q2⟩ := q
        simp only at H1 H2 HH HC h3 ⊢
        have h5 : ¬ q1 ≤ 0 := by omega
        have h6 : ¬ q2 < q1 := by omega
        go_enter Try.func54, Try.ntmps54
        go_wp2_with fail
        refine (H1.out _).mono ?_
        rintro e w1 ⟨rfl, hb⟩
        have HP1 := Lib.hid (((PC.start w p1 p2 25).grow _).below hb)
        have HP2 := Lib.hid ((PC.at1 w _ q1 q2 25).below hb)
        obtain ⟨_, d0, d1, _, _⟩ := HP2.out.parts
        simp only at d0 d1
        have HB := Lib.hid ((Below.two w _ _).trans (hb.mono (by simp; omega)))
        clear hb
        go_wp2_with fail
        refine (H2.out _).mono ?_
        rintro e w2 ⟨rfl, hb⟩
        have HP1 := Lib.hid (HP1.out.below hb)
        have HP2 := Lib.hid (HP2.out.below hb)
        obtain ⟨_, c0, c1, _, _⟩ := HP1.out.parts
        obtain ⟨_, d0, d1, _, _⟩ := HP2.out.parts
        simp only at c0 c1 d0 d1
        have HB := Lib.hid (HB.out.trans (hb.mono HB.out.size))
        clear hb
        go_wp2_with fail
        refine (HH.out _).mono ?_
        rintro e w3 ⟨A, n, c, rfl, rfl, ho, hb⟩
        have HP2 := Lib.hid (HP2.out.below hb)
        have HB := Lib.hid (HB.out.trans (hb.mono HB.out.size))
        have HO := Lib.hid ho
        clear hb ho c0 c1 d0 d1
        go_wp2
        go_loopw [31] (fun i wr => ∃ k : Nat, k ≤ n ∧ i = .int .i64 (k : Int) ∧ Below w.heap.size w wr ∧ PC (w.heap.size + 1) (q1, q2) wr ∧ SlAt pairS wr A L ∧ V = B (21 - k) k)
          (fun i _ => n - (intOf i).toNat)
        case atStart => exact ⟨0, Nat.zero_le _, rfl, HB.out, HP2.out, HO.out.sl, HV.out⟩
        case round =>
          obtain ⟨k, hk, rfl, hbr, P2, hs, hv⟩ := hrel
          rw [HF.out k (by omega)] at hv
          have HBr := Lib.hid hbr
          have HQ2 := Lib.hid P2
          have HS := Lib.hid hs
          have HVk := Lib.hid hv
          clear hbr hv
          by_cases hlt : k < n
          · have hlt' : (k : Int) < (n : Int) := by omega
            obtain ⟨bb, off, rfl, l0, hcl⟩ := (slAt_ants hs).at_ (show k < L.length by rw [HLL.out]; exact hlt)
            obtain ⟨a0, a1⟩ := hcl k (by rw [HLL.out]; exact hlt)
            rw [HLA.out k hlt] at a0 a1
            have HCk := Lib.hid (HC.out k hlt)
            have hcn := HCN.out k
            obtain ⟨⟨x1, x2⟩, hx⟩ : ∃ x, G k = x := ⟨_, rfl⟩
            rw [hx] at a0 a1 HCk HVk hcn
            simp only at a0 a1 HCk
            obtain ⟨_, d0, d1, _, _⟩ := P2.parts
            simp only at d0 d1
            clear P2 hs hcl hx
            cases hf : fstB (q1, q2) (x1, x2) with
            | true =>
              have HE : Hid (V = ((k : Int), true)) := by show _ = _; rw [HVk.out, if_pos hlt, hf]; rfl
              rw [hf, decide_eq_true_eq] at hcn
              clear hf HVk
              generalize cpJ (x1, x2) (q1, q2) = C at *
              go_wp2_with fail
              refine (HCk.out _).mono ?_
              rintro e w5 ⟨rfl, hb⟩
              have HB5 := Lib.hid ((HBr.out.alloc HBr.out.size _).trans (hb.mono (by have := HBr.out.size; simp; omega)))
              clear hb
              go_wp2
              exact bodyPost_ret (v := .tuple #[.int .i64 (k : Int), .bool true]) (by simp [results, Try.results54, go_sem]) rfl ⟨by rw [HE.out], HB5.out⟩
            | false =>
              have HE : Hid (V = B (21 - (k + 1)) (k + 1)) := by show _ = _; rw [HVk.out, if_pos hlt, hf]; rfl
              rw [hf, decide_eq_false_iff_not] at hcn
              clear hf HVk
              generalize cpJ (x1, x2) (q1, q2) = C at *
              go_wp2_with fail
              refine (HCk.out _).mono ?_
              rintro e w5 ⟨rfl, hb⟩
              have HB5 := Lib.hid ((HBr.out.alloc HBr.out.size _).trans (hb.mono (by have := HBr.out.size; simp; omega)))
              have HQ5 := Lib.hid ((HQ2.out.grow _).below hb)
              have HS5 := Lib.hid ((HS.out.alloc _).below hb)
              clear hb
              have kw1 : IntKind.i64.wrap ((k : Int) + 1) = (k : Int) + 1 := IntWalk.i64_in _ (by omega)
              go_wp2
              go_roundw
              case rel => exact ⟨k + 1, by omega, by congr 1, HB5.out, HQ5.out, HS5.out, HE.out⟩
              case measure => simp [intOf]; omega
          · have HE : Hid (V = (0, false)) := by show _ = _; rw [HVk.out, if_neg hlt]
            have hlt' : ¬ (k : Int) < (n : Int) := by omega
            clear P2 hs
            go_wp2
            exact bodyPost_ret (v := .tuple #[.int .i64 0, .bool false]) (by simp [results, Try.results54, go_sem]) rfl ⟨by rw [HE.out], HBr.out⟩
      · have HV := Lib.hid (be_f3 (p := p) (q := q) h3)
        generalize beR p q = V at *
        clear h1 h2
        obtain ⟨p1, p2⟩ := p
        obtain ⟨q1, q2⟩ := q
        simp only at H1 H2 h3 ⊢
        go_enter Try.func54, Try.ntmps54
        go_wp2_with fail
        refine (H1.out _).mono ?_
        rintro e w1 ⟨rfl, hb⟩
        have HP2 := Lib.hid ((PC.at1 w _ q1 q2 25).below hb)
        obtain ⟨_, d0, d1, _, _⟩ := HP2.out.parts
        simp only at d0 d1
        have HB := Lib.hid ((Below.two w _ _).trans (hb.mono (by simp; omega)))
        clear hb
        go_wp2_with fail
        refine (H2.out _).mono ?_
        rintro e w2 ⟨rfl, hb⟩
        obtain ⟨_, d0, d1, _, _⟩ := (HP2.out.below hb).parts
        simp only at d0 d1
        have HB2 := Lib.hid (HB.out.trans (hb.mono HB.out.size))
        clear hb
        by_cases h4 : q1 ≤ 0
        · go_wp2
          exact bodyPost_ret (v := .tuple #[.int .i64 0, .bool false]) (by simp [results, Try.results54, go_sem]) rfl ⟨by rw [HV.out], HB2.out⟩
        · have h5 : q2 < q1 := by omega
          go_wp2
          exact bodyPost_ret (v := .tuple #[.int .i64 0, .bool false]) (by simp [results, Try.results54, go_sem]) rfl ⟨by rw [HV.out], HB2.out⟩
end Go.Proofs.Ytikmkmpekjijpaa
