/- Balls on the model's side, seventh part: the way of bounces; the cradle. -/
import Derived.Test.YtikmkmpekjijpaaBalH
namespace Go.Proofs.Ytikmkmpekjijpaa
open Go.RowKit

def waOk (p : Int × Int) (b : Int) : Bool := haB p b 1 && wyOk p (b.toNat - 1)
def waV (p : Int × Int) (b : Int) : Int × Int := if waOk p b then wyV p (b.toNat - 1) else (0, 0)
theorem wa_f {p : Int × Int} {b : Int} (h : haB p b 1 = false) : waV p b = (0, 0) ∧ waOk p b = false := by
  have e : waOk p b = false := by unfold waOk; rw [h]; rfl
  exact ⟨by unfold waV; rw [e]; rfl, e⟩
theorem wa_t {p : Int × Int} {b : Int} (h : haB p b 1 = true) : waV p b = (if wyOk p (b.toNat - 1) then wyV p (b.toNat - 1) else (0, 0)) ∧ waOk p b = wyOk p (b.toNat - 1) := by
  have e : waOk p b = wyOk p (b.toNat - 1) := by unfold waOk; rw [h]; rfl
  exact ⟨by unfold waV; rw [e], e⟩
theorem wy_pa {p : Int × Int} : ∀ k, wyOk p k = true → paP (wyV p k) = true := by
  intro k
  cases k with
  | zero => intro _; show paP (1, 1) = true; decide
  | succ k =>
    intro h
    rw [wyOk, Bool.and_eq_true, Bool.and_eq_true] at h
    exact (mkV_pa h.2.2).2
theorem wy_no {p : Int × Int} {j k : Nat} (h : wyOk p j = false) (hjk : j ≤ k) : wyOk p k = false := by
  induction k with
  | zero => obtain rfl : j = 0 := (by omega); exact h
  | succ k ih =>
    rcases (by omega : j ≤ k ∨ j = k + 1) with h1 | h1
    · rw [wyOk, ih h1]; rfl
    · subst h1; exact h
theorem wy_next {p : Int × Int} {j : Nat} (h1 : wyOk p j = true) (h2 : hgOk p (j + 1) = true) : wyOk p (j + 1) = suOk 1 (wyV p j) 2 (hgV p (j + 1)) 1 := by
  rw [wyOk, h1, h2]; rfl
theorem wy_stop {p : Int × Int} {j : Nat} (h2 : hgOk p (j + 1) = false) : wyOk p (j + 1) = false := by
  rw [wyOk, h2]; simp

set_option maxRecDepth 100000 in
set_option maxHeartbeats 1000000 in
theorem specWayOfBounces_any (p : Int × Int) (b : Int) (w : World) :
    Calls Try.prog 55 #[.agg #[.int .i64 p.1, .int .i64 p.2], .int .i64 b] w fun e w' =>
      e = .returned (.tuple #[.agg #[.int .i64 (waV p b).1, .int .i64 (waV p b).2], .bool (waOk p b)]) ∧ Below w.heap.size w w' := by
  cases h1 : keB p with
  | false =>
    have HV := Lib.hid (wa_f (haB_f1 (b := b) (lo := 1) h1))
    have H1 := Lib.hid (bKeeps_at p false h1)
    generalize waV p b = V at *
    generalize waOk p b = R at *
    clear h1
    obtain ⟨p1, p2⟩ := p
    simp only at H1 ⊢
    go_enter Try.func55, Try.ntmps55
    go_wp2_with fail
    refine (H1.out _).mono ?_
    rintro e w1 ⟨rfl, hb⟩
    obtain ⟨s, c0, c1, f0, f1⟩ := ((PC.at1 w _ 0 0 25).below hb).parts
    have HB := Lib.hid ((Below.two w _ _).trans (hb.mono (by simp; omega)))
    clear hb
    go_wp2
    exact bodyPost_ret (v := .tuple #[.agg #[.int .i64 0, .int .i64 0], .bool false]) (by simp [results, Try.results55, go_sem, c0, c1]) rfl ⟨by rw [HV.out.1, HV.out.2], below_set2 HB.out _ _ (by omega)⟩
  | true =>
    have H1 := Lib.hid (bKeeps_at p true h1)
    cases h2 : (decide ((1 : Int) ≤ b) && decide (b ≤ 20)) with
    | false =>
      have HV := Lib.hid (wa_f (haB_f2 (p := p) h2))
      have H2 := Lib.hid (bIn_at b 1 20 false h2)
      generalize waV p b = V at *
      generalize waOk p b = R at *
      clear h1 h2
      obtain ⟨p1, p2⟩ := p
      simp only at H1 ⊢
      go_enter Try.func55, Try.ntmps55
      go_wp2_with fail
      refine (H1.out _).mono ?_
      rintro e w1 ⟨rfl, hb⟩
      obtain ⟨s, c0, c1, f0, f1⟩ := ((PC.at1 w _ 0 0 25).below hb).parts
      have HB := Lib.hid ((Below.two w _ _).trans (hb.mono (by simp; omega)))
      clear hb
      go_wp2_with fail
      refine (H2.out _).mono ?_
      rintro e w2 ⟨rfl, rfl⟩
      go_wp2
      exact bodyPost_ret (v := .tuple #[.agg #[.int .i64 0, .int .i64 0], .bool false]) (by simp [results, Try.results55, go_sem, c0, c1]) rfl ⟨by rw [HV.out.1, HV.out.2], below_set2 HB.out _ _ (by omega)⟩
    | true =>
      have HV := Lib.hid (wa_t (haB_t h1 h2))
      have H2 := Lib.hid (bIn_at b 1 20 true h2)
      rw [Bool.and_eq_true, decide_eq_true_eq, decide_eq_true_eq] at h2
      obtain ⟨n, hn⟩ : ∃ n, n = b.toNat - 1 := ⟨_, rfl⟩
      have hbn : b = ((n + 1 : Nat) : Int) := by omega
      have hn20 : n ≤ 19 := by omega
      rw [← hn] at HV
      clear hn h2
      have HH : Hid (∀ k : Nat, k ≤ 20 → ∀ w, Calls Try.prog 87 #[.agg #[.int .i64 p.1, .int .i64 p.2], .int .i64 (k : Int)] w fun e w' =>
          e = .returned (.tuple #[.agg #[.int .i64 (heV p k).1, .int .i64 (heV p k).2], .bool (hgOk p k)]) ∧ Below w.heap.size w w') := fun k hk w => bHeight_any p k w h1 hk
      have HS : Hid (∀ j : Nat, wyOk p j = true → hgOk p (j + 1) = true → ∀ w, Calls Try.prog 71 #[.int .i64 1, .agg #[.int .i64 (wyV p j).1, .int .i64 (wyV p j).2], .int .i64 2, .agg #[.int .i64 (hgV p (j + 1)).1, .int .i64 (hgV p (j + 1)).2], .int .i64 1] w fun e w' =>
          e = .returned (.tuple #[.agg #[.int .i64 (wyV p (j + 1)).1, .int .i64 (wyV p (j + 1)).2], .bool (wyOk p (j + 1))]) ∧ Below w.heap.size w w') := fun j h3 h4 w => by
        rw [wy_next h3 h4]
        exact baSum_any 1 2 1 (wyV p j) (hgV p (j + 1)) w (by omega) (by omega) (by omega) (smP_of (wy_pa j h3)) (smP_of (hg_pow h1 (j + 1) h4).2.1)
      have HEV : Hid (∀ k, heV p k = if hgOk p k then hgV p k else (0, 0)) := fun k => rfl
      have HN : Hid (∀ j k : Nat, wyOk p j = false → j ≤ k → wyOk p k = false) := fun j k h hjk => wy_no h hjk
      have HP : Hid (∀ j : Nat, hgOk p (j + 1) = false → wyOk p (j + 1) = false) := fun j h => wy_stop h
      have H0 : wyV p 0 = (1, 1) := rfl
      have H00 : wyOk p 0 = true := rfl
      generalize waV p b = V at *
      generalize waOk p b = R at *
      generalize heV p = H at *
      generalize hgOk p = O at *
      generalize hgV p = G at *
      generalize wyOk p = Y at *
      generalize wyV p = X at *
      clear h1
      subst hbn
      obtain ⟨p1, p2⟩ := p
      simp only at H1 HH ⊢
      go_enter Try.func55, Try.ntmps55
      go_wp2_with fail
      refine (H1.out _).mono ?_
      rintro e w1 ⟨rfl, hb⟩
      have HP1 := Lib.hid (((PC.start w p1 p2 25).grow _).below hb)
      have HP2 := Lib.hid ((PC.at1 w _ 0 0 25).below hb)
      have HB := Lib.hid ((Below.two w _ _).trans (hb.mono (by simp; omega)))
      have s0 : w.heap.size + 1 < w1.heap.size := HP2.out.lt
      clear hb
      go_wp2_with fail
      refine (H2.out _).mono ?_
      rintro e w2 ⟨rfl, rfl⟩
      go_wp2
      go_loopw [7] (fun b wr => ∃ k : Nat, k ≤ n ∧ b = .int .i64 ((k : Int) + 1) ∧ Below w.heap.size w wr ∧ PC w.heap.size (p1, p2) wr ∧ PC (w.heap.size + 1) (0, 0) wr ∧ PC w1.heap.size (X k) wr ∧ Y k = true)
        (fun b _ => n + 1 - (intOf b).toNat)
      case atStart =>
        refine ⟨0, Nat.zero_le _, by simp, HB.out.alloc HB.out.size _, HP1.out.grow _, HP2.out.grow _, ?_, H00⟩
        rw [H0]
        exact PC.start w1 1 1 25
      case round =>
        obtain ⟨k, hk, rfl, hb, P1, P2, P3, hy⟩ := hrel
        have HBr := Lib.hid hb
        have HQ1 := Lib.hid P1
        have HQ2 := Lib.hid P2
        have HQ3 := Lib.hid P3
        clear HB HP1 HP2 H1 H2 hb
        by_cases hlt : k < n
        · have q1 : (k : Int) + 1 < ((n + 1 : Nat) : Int) := by omega
          have HHk : Hid (∀ w, Calls Try.prog 87 #[.agg #[.int .i64 p1, .int .i64 p2], .int .i64 ((k : Int) + 1)] w fun e w' =>
              e = .returned (.tuple #[.agg #[.int .i64 (H (k + 1)).1, .int .i64 (H (k + 1)).2], .bool (O (k + 1))]) ∧ Below w.heap.size w w') := fun w => HH.out (k + 1) (by omega) w
          cases ho : O (k + 1) with
          | false =>
            have HVV : Hid (V = (0, 0) ∧ R = false) := by
              have h5 := HN.out (k + 1) n (HP.out k ho) (by omega)
              have h6 := HV.out
              rw [h5] at h6
              exact h6
            have hev : H (k + 1) = (0, 0) := by rw [HEV.out, ho]; rfl
            rw [ho, hev] at HHk
            simp only at HHk
            obtain ⟨s1, c0, c1, f0, f1⟩ := P1.parts
            clear P1 P2 P3 HH HS HEV HN HP HV
            go_wp2_with fail
            refine (HHk.out _).mono ?_
            rintro e w3 ⟨rfl, hb⟩
            obtain ⟨s2, d0, d1, g0, g1⟩ := (HQ2.out.below hb).parts
            have HB3 := Lib.hid (HBr.out.trans (hb.mono HBr.out.size))
            have s4 : w.heap.size + 1 < w3.heap.size := s2
            clear hb
            go_wp2
            exact bodyPost_ret (v := .tuple #[.agg #[.int .i64 0, .int .i64 0], .bool false]) (by simp [results, Try.results55, go_sem, d0, d1, s4]) rfl ⟨by rw [HVV.out.1, HVV.out.2], (below_set2 HB3.out _ _ (by omega)).alloc (by have := HB3.out.size; simp; omega) _⟩
          | true =>
            have HSk := Lib.hid (HS.out k hy ho)
            have hev : H (k + 1) = G (k + 1) := by rw [HEV.out, ho]; rfl
            rw [ho, hev] at HHk
            obtain ⟨⟨g1', g2'⟩, hg⟩ : ∃ x, G (k + 1) = x := ⟨_, rfl⟩
            obtain ⟨⟨x1, x2⟩, hx⟩ : ∃ x, X k = x := ⟨_, rfl⟩
            obtain ⟨⟨y1, y2⟩, hxx⟩ : ∃ x, X (k + 1) = x := ⟨_, rfl⟩
            rw [hg, hx, hxx] at HSk
            rw [hg] at HHk
            rw [hx] at HQ3
            simp only at HHk HSk
            obtain ⟨s1, c0, c1, f0, f1⟩ := P1.parts
            clear P1 P2 P3
            go_wp2_with fail
            refine (HHk.out _).mono ?_
            rintro e w3 ⟨rfl, hb⟩
            have HB3 := Lib.hid (HBr.out.trans (hb.mono HBr.out.size))
            have hR3 := HQ3.out.below hb
            have HR1 := Lib.hid (HQ1.out.below hb)
            have HR2 := Lib.hid (HQ2.out.below hb)
            have HR3 := Lib.hid hR3
            obtain ⟨s3, a0, a1, af0, af1⟩ := hR3.parts
            clear hb hR3 HQ1 HQ2 HQ3 c0 c1 f0 f1
            go_wp2_with fail
            refine (HSk.out _).mono ?_
            rintro e w4 ⟨rfl, hb⟩
            have T1 := (HR1.out.grow _).below hb
            have T2 := (HR2.out.grow _).below hb
            have T3 := (HR3.out.grow _).below hb
            have HT1 := Lib.hid T1
            have HT2 := Lib.hid T2
            have HT3 := Lib.hid T3
            have HB4 := Lib.hid ((HB3.out.alloc HB3.out.size _).trans (hb.mono (by have := HB3.out.size; simp; omega)))
            clear hb HR1 HR2 HR3 a0 a1 af0 af1 HB3
            cases hy2 : Y (k + 1) with
            | false =>
              have HVV : Hid (V = (0, 0) ∧ R = false) := by
                have h5 := HN.out (k + 1) n hy2 (by omega)
                have h6 := HV.out
                rw [h5] at h6
                exact h6
              obtain ⟨s2, d0, d1, g0, g1⟩ := T2.parts
              have s4 : w.heap.size + 1 < w4.heap.size := s2
              clear T1 T2 T3
              go_wp2
              exact bodyPost_ret (v := .tuple #[.agg #[.int .i64 0, .int .i64 0], .bool false]) (by simp [results, Try.results55, go_sem, d0, d1, s4]) rfl ⟨by rw [HVV.out.1, HVV.out.2], (below_set2 HB4.out _ _ (by omega)).alloc (by have := HB4.out.size; simp; omega) _⟩
            | true =>
              obtain ⟨s3', e0, e1, ef0, ef1⟩ := T3.parts
              clear T1 T2 T3
              go_wp2
              go_roundw
              case rel =>
                refine ⟨k + 1, by omega, by congr 1, ?_, ?_, ?_, ?_, hy2⟩
                · exact (below_set2 HB4.out _ _ (by omega)).alloc (by have := HB4.out.size; simp; omega) _
                · exact ((HT1.out.far (by omega) _ _).far (by omega) _ _).grow _
                · exact ((HT2.out.far (by omega) _ _).far (by omega) _ _).grow _
                · rw [hxx]; exact (HT3.out.set y1 y2).grow _
              case measure => simp [intOf]; omega
        · have hkn : k = n := by omega
          subst hkn
          have HVV : Hid (V = X k ∧ R = true) := by
            have h6 := HV.out
            rw [hy] at h6
            exact h6
          have q1 : ¬ (k : Int) + 1 < ((k + 1 : Nat) : Int) := by omega
          obtain ⟨⟨x1, x2⟩, hx⟩ : ∃ x, X k = x := ⟨_, rfl⟩
          rw [hx] at P3 HVV
          obtain ⟨s1, c0, c1, f0, f1⟩ := P3.parts
          obtain ⟨s2, d0, d1, g0, g1⟩ := P2.parts
          clear P1 P2 P3
          go_wp2
          exact bodyPost_ret (v := .tuple #[.agg #[.int .i64 x1, .int .i64 x2], .bool true]) (by simp [results, Try.results55, go_sem, d0, d1]) rfl ⟨by rw [HVV.out.1, HVV.out.2], below_set2 HBr.out _ _ (by omega)⟩
end Go.Proofs.Ytikmkmpekjijpaa
