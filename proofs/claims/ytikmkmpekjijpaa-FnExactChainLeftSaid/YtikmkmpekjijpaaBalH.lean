/- Balls on the model's side, sixth part: the calls on bounces. -/
import Derived.Test.YtikmkmpekjijpaaBalG
namespace Go.Proofs.Ytikmkmpekjijpaa
open Go.RowKit

def haB (p : Int × Int) (b : Int) (lo : Int) : Bool := keB p && (decide (lo ≤ b) && decide (b ≤ 20))
def haOk (p : Int × Int) (b : Int) : Bool := haB p b 0 && hgOk p b.toNat
def haV (p : Int × Int) (b : Int) : Int × Int := if haOk p b then hgV p b.toNat else (0, 0)
theorem ha_f {p : Int × Int} {b : Int} (h : haB p b 0 = false) : haV p b = (0, 0) ∧ haOk p b = false := by
  have e : haOk p b = false := by unfold haOk; rw [h]; rfl
  exact ⟨by unfold haV; rw [e]; rfl, e⟩
theorem ha_t {p : Int × Int} {b : Int} (h : haB p b 0 = true) : haV p b = heV p b.toNat ∧ haOk p b = hgOk p b.toNat := by
  have e : haOk p b = hgOk p b.toNat := by unfold haOk; rw [h]; rfl
  exact ⟨by unfold haV heV; rw [e], e⟩
theorem haB_f1 {p : Int × Int} {b lo : Int} (h : keB p = false) : haB p b lo = false := by unfold haB; rw [h]; rfl
theorem haB_f2 {p : Int × Int} {b lo : Int} (h : (decide (lo ≤ b) && decide (b ≤ 20)) = false) : haB p b lo = false := by unfold haB; rw [h]; simp
theorem haB_t {p : Int × Int} {b lo : Int} (h1 : keB p = true) (h : (decide (lo ≤ b) && decide (b ≤ 20)) = true) : haB p b lo = true := by unfold haB; rw [h1, h]; rfl

set_option maxHeartbeats 1000000 in
theorem specHeightAfter_any (p : Int × Int) (b : Int) (w : World) :
    Calls Try.prog 51 #[.agg #[.int .i64 p.1, .int .i64 p.2], .int .i64 b] w fun e w' =>
      e = .returned (.tuple #[.agg #[.int .i64 (haV p b).1, .int .i64 (haV p b).2], .bool (haOk p b)]) ∧ Below w.heap.size w w' := by
  cases h1 : keB p with
  | false =>
    have HV := Lib.hid (ha_f (haB_f1 (b := b) (lo := 0) h1))
    have H1 := Lib.hid (bKeeps_at p false h1)
    generalize haV p b = V at *
    generalize haOk p b = R at *
    clear h1
    obtain ⟨p1, p2⟩ := p
    simp only at H1 ⊢
    go_enter Try.func51, Try.ntmps51
    go_wp2_with fail
    refine (H1.out _).mono ?_
    rintro e w1 ⟨rfl, hb⟩
    obtain ⟨s, c0, c1, f0, f1⟩ := ((PC.at1 w _ 0 0 25).below hb).parts
    have HB := Lib.hid ((Below.two w _ _).trans (hb.mono (by simp; omega)))
    clear hb
    go_wp2
    exact bodyPost_ret (v := .tuple #[.agg #[.int .i64 0, .int .i64 0], .bool false]) (by simp [results, Try.results51, go_sem, c0, c1]) rfl ⟨by rw [HV.out.1, HV.out.2], below_set2 HB.out _ _ (by omega)⟩
  | true =>
    have H1 := Lib.hid (bKeeps_at p true h1)
    cases h2 : (decide ((0 : Int) ≤ b) && decide (b ≤ 20)) with
    | false =>
      have HV := Lib.hid (ha_f (haB_f2 (p := p) h2))
      have H2 := Lib.hid (bIn_at b 0 20 false h2)
      generalize haV p b = V at *
      generalize haOk p b = R at *
      clear h1 h2
      obtain ⟨p1, p2⟩ := p
      simp only at H1 ⊢
      go_enter Try.func51, Try.ntmps51
      go_wp2_with fail
      refine (H1.out _).mono ?_
      rintro e w1 ⟨rfl, hb⟩
      obtain ⟨s, c0, c1, f0, f1⟩ := ((PC.at1 w _ 0 0 25).below hb).parts
      have HB := Lib.hid ((Below.two w _ _).trans (hb.mono (by simp; omega)))
      clear hb
      go_wp2_with fail
      refine (H2.out _).mono ?_
      rintro e w2 ⟨rfl, rfl⟩
      go_wp2
      exact bodyPost_ret (v := .tuple #[.agg #[.int .i64 0, .int .i64 0], .bool false]) (by simp [results, Try.results51, go_sem, c0, c1]) rfl ⟨by rw [HV.out.1, HV.out.2], below_set2 HB.out _ _ (by omega)⟩
    | true =>
      have HV := Lib.hid (ha_t (haB_t h1 h2))
      have H2 := Lib.hid (bIn_at b 0 20 true h2)
      rw [Bool.and_eq_true, decide_eq_true_eq, decide_eq_true_eq] at h2
      have HH : Hid (∀ w, Calls Try.prog 87 #[.agg #[.int .i64 p.1, .int .i64 p.2], .int .i64 b] w fun e w' =>
          e = .returned (.tuple #[.agg #[.int .i64 (heV p b.toNat).1, .int .i64 (heV p b.toNat).2], .bool (hgOk p b.toNat)]) ∧ Below w.heap.size w w') := fun w => by
        have := bHeight_any p b.toNat w h1 (by omega)
        rwa [show ((b.toNat : Nat) : Int) = b by omega] at this
      generalize heV p b.toNat = X at *
      generalize hgOk p b.toNat = R' at *
      generalize haV p b = V at *
      generalize haOk p b = R at *
      clear h1 h2
      obtain ⟨p1, p2⟩ := p
      obtain ⟨x1, x2⟩ := X
      simp only at H1 HH ⊢
      go_enter Try.func51, Try.ntmps51
      go_wp2_with fail
      refine (H1.out _).mono ?_
      rintro e w1 ⟨rfl, hb⟩
      obtain ⟨s, c0, c1, f0, f1⟩ := (((PC.start w p1 p2 25).grow _).below hb).parts
      have P2 := (PC.at1 w _ 0 0 25).below hb
      have HB := Lib.hid ((Below.two w _ _).trans (hb.mono (by simp; omega)))
      clear hb
      go_wp2_with fail
      refine (H2.out _).mono ?_
      rintro e w2 ⟨rfl, rfl⟩
      go_wp2_with fail
      refine (HH.out _).mono ?_
      rintro e w2 ⟨rfl, hb⟩
      obtain ⟨s2, d0, d1, g0, g1⟩ := (P2.below hb).parts
      have HB2 := Lib.hid (HB.out.trans (hb.mono HB.out.size))
      clear hb
      go_wp2
      exact bodyPost_ret (v := .tuple #[.agg #[.int .i64 x1, .int .i64 x2], .bool R']) (by simp [results, Try.results51, go_sem, d0, d1]) rfl ⟨by rw [HV.out.1, HV.out.2], below_set2 HB2.out _ _ (by omega)⟩

/-! ### the first bounce below a part -/
def beF (p q : Int × Int) : Nat → Nat → Int × Bool
  | 0, _ => (0, false)
  | f + 1, k => if hgOk p k then (if fstB q (hgV p k) then ((k : Int), true) else beF p q f (k + 1)) else (0, false)
def beA (p q : Int × Int) : Bool := (keB p && paP q) && (decide (0 < q.1) && decide (q.1 ≤ q.2))
def beR (p q : Int × Int) : Int × Bool := if beA p q then beF p q 21 0 else (0, false)
theorem be_f1 {p q : Int × Int} (h : keB p = false) : beR p q = (0, false) := by
  have e : beA p q = false := by unfold beA; rw [h]; rfl
  unfold beR; rw [e]; rfl
theorem be_f2 {p q : Int × Int} (h : paB q.1 q.2 = false) : beR p q = (0, false) := by
  have e : beA p q = false := by unfold beA paP; rw [h]; simp
  unfold beR; rw [e]; rfl
theorem be_f3 {p q : Int × Int} (h : ¬ (0 < q.1 ∧ q.1 ≤ q.2)) : beR p q = (0, false) := by
  have e : beA p q = false := by rw [← Bool.not_eq_true]; unfold beA; rw [Bool.and_eq_true, Bool.and_eq_true, Bool.and_eq_true, decide_eq_true_eq, decide_eq_true_eq]; exact fun hh => h hh.2
  unfold beR; rw [e]; rfl
theorem be_t {p q : Int × Int} (h1 : keB p = true) (h2 : paB q.1 q.2 = true) (h : 0 < q.1 ∧ q.1 ≤ q.2) : beR p q = beF p q 21 0 := by
  have e : beA p q = true := by unfold beA paP; rw [h1, h2]; simp [h.1, h.2]
  unfold beR; rw [e]; rfl

set_option maxRecDepth 100000 in
set_option maxHeartbeats 1000000 in
theorem specBouncesBelow_any (p q : Int × Int) (w : World) :
    Calls Try.prog 53 #[.agg #[.int .i64 p.1, .int .i64 p.2], .agg #[.int .i64 q.1, .int .i64 q.2]] w fun e w' =>
      e = .returned (.tuple #[.int .i64 (beR p q).1, .bool (beR p q).2]) ∧ Below w.heap.size w w' := by
  cases h1 : keB p with
  | false =>
    have HV := Lib.hid (be_f1 (q := q) h1)
    have H1 := Lib.hid (bKeeps_at p false h1)
    generalize beR p q = V at *
    clear h1
    obtain ⟨p1, p2⟩ := p
    obtain ⟨q1, q2⟩ := q
    simp only at H1 ⊢
    go_enter Try.func53, Try.ntmps53
    go_wp2_with fail
    refine (H1.out _).mono ?_
    rintro e w1 ⟨rfl, hb⟩
    have HB := Lib.hid ((Below.two w _ _).trans (hb.mono (by simp; omega)))
    clear hb
    go_wp2
    exact bodyPost_ret (v := .tuple #[.int .i64 0, .bool false]) (by simp [results, Try.results53, go_sem]) rfl ⟨by rw [HV.out], HB.out⟩
  | true =>
    have H1 := Lib.hid (bKeeps_at p true h1)
    cases h2 : paB q.1 q.2 with
    | false =>
      have HV := Lib.hid (be_f2 (p := p) h2)
      have H2 := Lib.hid (baPace_at q.1 q.2 false h2)
      generalize beR p q = V at *
      clear h1 h2
      obtain ⟨p1, p2⟩ := p
      obtain ⟨q1, q2⟩ := q
      simp only at H1 H2 ⊢
      go_enter Try.func53, Try.ntmps53
      go_wp2_with fail
      refine (H1.out _).mono ?_
      rintro e w1 ⟨rfl, hb⟩
      have e0 : w1.cell? ⟨w.heap.size + 1, 0, none⟩ = some (.int .i64 q1) := by rw [hb.cell (p := ⟨w.heap.size + 1, 0, none⟩) (by simp)]; simp [go_sem]
      have e1 : w1.cell? ⟨w.heap.size + 1, 1, none⟩ = some (.int .i64 q2) := by rw [hb.cell (p := ⟨w.heap.size + 1, 1, none⟩) (by simp)]; simp [go_sem]
      have HB := Lib.hid ((Below.two w _ _).trans (hb.mono (by simp; omega)))
      clear hb
      go_wp2_with fail
      refine (H2.out _).mono ?_
      rintro e w2 ⟨rfl, hb⟩
      have HB2 := Lib.hid (HB.out.trans (hb.mono HB.out.size))
      clear hb
      go_wp2
      exact bodyPost_ret (v := .tuple #[.int .i64 0, .bool false]) (by simp [results, Try.results53, go_sem]) rfl ⟨by rw [HV.out], HB2.out⟩
    | true =>
      have H2 := Lib.hid (baPace_at q.1 q.2 true h2)
      by_cases h3 : 0 < q.1
      · by_cases h4 : q.2 < q.1
        · have HV := Lib.hid (be_f3 (p := p) (q := q) (by omega))
          generalize beR p q = V at *
          clear h1 h2
          obtain ⟨p1, p2⟩ := p
          obtain ⟨q1, q2⟩ := q
          simp only at H1 H2 h3 h4 ⊢
          go_enter Try.func53, Try.ntmps53
          go_wp2_with fail
          refine (H1.out _).mono ?_
          rintro e w1 ⟨rfl, hb⟩
          have e0 : w1.cell? ⟨w.heap.size + 1, 0, none⟩ = some (.int .i64 q1) := by rw [hb.cell (p := ⟨w.heap.size + 1, 0, none⟩) (by simp)]; simp [go_sem]
          have e1 : w1.cell? ⟨w.heap.size + 1, 1, none⟩ = some (.int .i64 q2) := by rw [hb.cell (p := ⟨w.heap.size + 1, 1, none⟩) (by simp)]; simp [go_sem]
          have HB := Lib.hid ((Below.two w _ _).trans (hb.mono (by simp; omega)))
          clear hb
          go_wp2_with fail
          refine (H2.out _).mono ?_
          rintro e w2 ⟨rfl, hb⟩
          have e0 := Below.cell_some hb e0
          have e1 := Below.cell_some hb e1
          have HB2 := Lib.hid (HB.out.trans (hb.mono HB.out.size))
          clear hb
          have h5 : ¬ q1 ≤ 0 := by omega
          go_wp2
          exact bodyPost_ret (v := .tuple #[.int .i64 0, .bool false]) (by simp [results, Try.results53, go_sem]) rfl ⟨by rw [HV.out], HB2.out⟩
        · have HV := Lib.hid (be_t h1 h2 (by omega : 0 < q.1 ∧ q.1 ≤ q.2))
          have hqs : smP q := smP_of h2
          have HH : Hid (∀ k : Nat, k ≤ 20 → ∀ w, Calls Try.prog 87 #[.agg #[.int .i64 p.1, .int .i64 p.2], .int .i64 (k : Int)] w fun e w' =>
              e = .returned (.tuple #[.agg #[.int .i64 (heV p k).1, .int .i64 (heV p k).2], .bool (hgOk p k)]) ∧ Below w.heap.size w w') := fun k hk w => bHeight_any p k w h1 hk
          have HF : Hid (∀ k : Nat, hgOk p k = true → ∀ w, Calls Try.prog 66 #[.agg #[.int .i64 q.1, .int .i64 q.2], .agg #[.int .i64 (hgV p k).1, .int .i64 (hgV p k).2]] w fun e w' =>
              e = .returned (.bool (fstB q (hgV p k))) ∧ Below w.heap.size w w') := fun k hk w => bFaster_any q (hgV p k) w hqs (smP_of (hg_pow h1 k hk).2.1)
          have HS : Hid (∀ k, hgOk p k = true → k ≤ 19) := fun k hk => hg_stop h1 k hk
          have HE : Hid (∀ k, k ≤ 20 → beF p q (21 - k) k = if hgOk p k then (if fstB q (hgV p k) then ((k : Int), true) else beF p q (21 - (k + 1)) (k + 1)) else (0, false)) := fun k hk => by
            rw [show 21 - k = (20 - k) + 1 by omega, beF, show 20 - k = 21 - (k + 1) by omega]
          have HEV : Hid (∀ k, heV p k = if hgOk p k then hgV p k else (0, 0)) := fun k => rfl
          generalize beR p q = V at *
          generalize beF p q = B at *
          generalize heV p = H at *
          generalize hgOk p = O at *
          generalize hgV p = G at *
          clear h1 h2 hqs
          obtain ⟨p1, p2⟩ := p
          obtain ⟨q1, q2⟩ := q
          simp only at H1 H2 h3 h4 HH HF ⊢
          go_enter Try.func53, Try.ntmps53
          go_wp2_with fail
          refine (H1.out _).mono ?_
          rintro e w1 ⟨rfl, hb⟩
          have hb0 := hb
          have e0 : w1.cell? ⟨w.heap.size + 1, 0, none⟩ = some (.int .i64 q1) := by rw [hb.cell (p := ⟨w.heap.size + 1, 0, none⟩) (by simp)]; simp [go_sem]
          have e1 : w1.cell? ⟨w.heap.size + 1, 1, none⟩ = some (.int .i64 q2) := by rw [hb.cell (p := ⟨w.heap.size + 1, 1, none⟩) (by simp)]; simp [go_sem]
          have P1 := ((PC.start w p1 p2 25).grow (Obj.cells #[Value.int .i64 q1, Value.int .i64 q2] 25)).below hb
          have HB := Lib.hid ((Below.two w _ _).trans (hb.mono (by simp; omega)))
          clear hb
          go_wp2_with fail
          refine (H2.out _).mono ?_
          rintro e w2 ⟨rfl, hb⟩
          have e0 := Below.cell_some hb e0
          have e1 := Below.cell_some hb e1
          have HP1 := Lib.hid (P1.below hb)
          have HP2 := Lib.hid ((((PC.at1 w (Obj.cells #[Value.int .i64 p1, Value.int .i64 p2] 25) q1 q2 25)).below hb0).below hb)
          have HB2 := Lib.hid (HB.out.trans (hb.mono HB.out.size))
          clear hb hb0 P1
          have h5 : ¬ q1 ≤ 0 := by omega
          go_wp2
          go_loopw [6] (fun b wr => ∃ k : Nat, k ≤ 20 ∧ b = .int .i64 (k : Int) ∧ Below w.heap.size w wr ∧ PC w.heap.size (p1, p2) wr ∧ PC (w.heap.size + 1) (q1, q2) wr ∧ V = B (21 - k) k)
            (fun b _ => 21 - (intOf b).toNat)
          case atStart => exact ⟨0, by omega, rfl, HB2.out, HP1.out, HP2.out, HV.out⟩
          case round =>
            obtain ⟨k, hk, rfl, hb, P1, P2, hv⟩ := hrel
            have HB := Lib.hid hb
            have HQ1 := Lib.hid P1
            have HQ2 := Lib.hid P2
            obtain ⟨s1, c0, c1, f0, f1⟩ := P1.parts
            rw [HE.out k hk] at hv
            have HVk := Lib.hid hv
            clear hb P1 P2 hv e0 e1 HV HB2 HP1 HP2 HE
            have HHk := Lib.hid (HH.out k hk)
            cases ho : O k with
            | false =>
              have HV : Hid (V = (0, false)) := by show _ = _; rw [HVk.out, ho]; rfl
              rw [ho] at HHk
              go_wp2_with fail
              refine (HHk.out _).mono ?_
              rintro e w3 ⟨rfl, hb⟩
              have HB3 := Lib.hid (HB.out.trans (hb.mono HB.out.size))
              clear hb
              go_wp2
              exact bodyPost_ret (v := .tuple #[.int .i64 0, .bool false]) (by simp [results, Try.results53, go_sem]) rfl ⟨by rw [HV.out], HB3.out.alloc HB3.out.size _⟩
            | true =>
              have hk19 := HS.out k ho
              have HFk := Lib.hid (HF.out k ho)
              have hev : H k = G k := by rw [HEV.out, ho]; rfl
              rw [ho, hev] at HHk
              rw [ho] at HVk
              clear HEV HF HH HS hev
              obtain ⟨⟨x1, x2⟩, hx⟩ : ∃ x, G k = x := ⟨_, rfl⟩
              rw [hx] at HHk HFk HVk
              simp only at HHk HFk
              cases hf : fstB (q1, q2) (x1, x2) with
              | true =>
                have HV : Hid (V = ((k : Int), true)) := by show _ = _; rw [HVk.out, hf]; rfl
                rw [hf] at HFk
                clear HVk hf
                go_wp2_with fail
                refine (HHk.out _).mono ?_
                rintro e w3 ⟨rfl, hb⟩
                obtain ⟨s2, d0, d1, g0, g1⟩ := (HQ2.out.below hb).parts
                have HB3 := Lib.hid (HB.out.trans (hb.mono HB.out.size))
                clear hb
                go_wp2_with fail
                refine (HFk.out _).mono ?_
                rintro e w4 ⟨rfl, hb⟩
                have HB4 := Lib.hid ((HB3.out.alloc HB3.out.size _).trans (hb.mono (by have := HB3.out.size; simp; omega)))
                clear hb
                go_wp2
                exact bodyPost_ret (v := .tuple #[.int .i64 (k : Int), .bool true]) (by simp [results, Try.results53, go_sem]) rfl ⟨by rw [HV.out], HB4.out⟩
              | false =>
                have HV : Hid (V = B (21 - (k + 1)) (k + 1)) := by show _ = _; rw [HVk.out, hf]; rfl
                rw [hf] at HFk
                clear HVk hf
                go_wp2_with fail
                refine (HHk.out _).mono ?_
                rintro e w3 ⟨rfl, hb⟩
                have R1 := HQ1.out.below hb
                have R2 := HQ2.out.below hb
                obtain ⟨s2, d0, d1, g0, g1⟩ := R2.parts
                have HB3 := Lib.hid (HB.out.trans (hb.mono HB.out.size))
                have HR1 := Lib.hid R1
                have HR2 := Lib.hid R2
                clear hb R1 R2
                go_wp2_with fail
                refine (HFk.out _).mono ?_
                rintro e w4 ⟨rfl, hb⟩
                have HB4 := Lib.hid ((HB3.out.alloc HB3.out.size _).trans (hb.mono (by have := HB3.out.size; simp; omega)))
                have HS1 := Lib.hid ((HR1.out.grow _).below hb)
                have HS2 := Lib.hid ((HR2.out.grow _).below hb)
                clear hb
                go_wp2
                go_roundw
                case rel => exact ⟨k + 1, by omega, by congr 1, HB4.out, HS1.out, HS2.out, HV.out⟩
                case measure => simp [intOf]; omega
      · have HV := Lib.hid (be_f3 (p := p) (q := q) (by omega))
        generalize beR p q = V at *
        clear h1 h2
        obtain ⟨p1, p2⟩ := p
        obtain ⟨q1, q2⟩ := q
        simp only at H1 H2 h3 ⊢
        go_enter Try.func53, Try.ntmps53
        go_wp2_with fail
        refine (H1.out _).mono ?_
        rintro e w1 ⟨rfl, hb⟩
        have e0 : w1.cell? ⟨w.heap.size + 1, 0, none⟩ = some (.int .i64 q1) := by rw [hb.cell (p := ⟨w.heap.size + 1, 0, none⟩) (by simp)]; simp [go_sem]
        have e1 : w1.cell? ⟨w.heap.size + 1, 1, none⟩ = some (.int .i64 q2) := by rw [hb.cell (p := ⟨w.heap.size + 1, 1, none⟩) (by simp)]; simp [go_sem]
        have HB := Lib.hid ((Below.two w _ _).trans (hb.mono (by simp; omega)))
        clear hb
        go_wp2_with fail
        refine (H2.out _).mono ?_
        rintro e w2 ⟨rfl, hb⟩
        have e0 := Below.cell_some hb e0
        have e1 := Below.cell_some hb e1
        have HB2 := Lib.hid (HB.out.trans (hb.mono HB.out.size))
        clear hb
        have h5 : q1 ≤ 0 := by omega
        go_wp2
        exact bodyPost_ret (v := .tuple #[.int .i64 0, .bool false]) (by simp [results, Try.results53, go_sem]) rfl ⟨by rw [HV.out], HB2.out⟩
end Go.Proofs.Ytikmkmpekjijpaa
