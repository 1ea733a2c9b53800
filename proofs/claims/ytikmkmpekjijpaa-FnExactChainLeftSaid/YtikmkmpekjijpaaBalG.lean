/- Balls on the model's side, fifth part: bounces. -/
import Derived.Test.YtikmkmpekjijpaaBalF
namespace Go.Proofs.Ytikmkmpekjijpaa
open Go.RowKit

/-- a pace lies in block g -/
structure PC (g : Nat) (x : Int × Int) (wr : World) : Prop where
  lt : g < wr.heap.size
  c0 : wr.cell? ⟨g, 0, none⟩ = some (.int .i64 x.1)
  c1 : wr.cell? ⟨g, 1, none⟩ = some (.int .i64 x.2)
  f0 : wr.frozen? ⟨g, 0, none⟩ = false
  f1 : wr.frozen? ⟨g, 1, none⟩ = false
theorem PC.parts {g : Nat} {x : Int × Int} {wr : World} (h : PC g x wr) : g < wr.heap.size ∧ wr.cell? ⟨g, 0, none⟩ = some (.int .i64 x.1) ∧ wr.cell? ⟨g, 1, none⟩ = some (.int .i64 x.2) ∧ wr.frozen? ⟨g, 0, none⟩ = false ∧ wr.frozen? ⟨g, 1, none⟩ = false := ⟨h.lt, h.c0, h.c1, h.f0, h.f1⟩
theorem PC.below {g : Nat} {x : Int × Int} {wr w2 : World} (h : PC g x wr) (hb : Below wr.heap.size wr w2) : PC g x w2 :=
  ⟨Nat.lt_of_lt_of_le h.lt hb.size, Below.cell_some hb h.c0, Below.cell_some hb h.c1, (hb.frozen (p := ⟨g, 0, none⟩) h.lt).trans h.f0, (hb.frozen (p := ⟨g, 1, none⟩) h.lt).trans h.f1⟩
theorem PC.grow {g : Nat} {x : Int × Int} {wr : World} (h : PC g x wr) (o : Obj) : PC g x (wr.alloc o) := h.below ((Below.refl _ _).alloc (Nat.le_refl _) _)
theorem PC.start (w : World) (a b : Int) (e : TypeId) : PC w.heap.size (a, b) (w.alloc (Obj.cells #[Value.int IntKind.i64 a, Value.int IntKind.i64 b] e)) := ⟨by simp, by simp, by simp, by simp, by simp⟩
theorem PC.at1 (w : World) (o1 : Obj) (a b : Int) (e : TypeId) : PC (w.heap.size + 1) (a, b) ((w.alloc o1).alloc (Obj.cells #[Value.int IntKind.i64 a, Value.int IntKind.i64 b] e)) := by
  have := PC.start (w.alloc o1) a b e
  simpa using this
theorem PC.at2 (w : World) (o1 o2 : Obj) (a b : Int) (e : TypeId) : PC (w.heap.size + 1 + 1) (a, b) (((w.alloc o1).alloc o2).alloc (Obj.cells #[Value.int IntKind.i64 a, Value.int IntKind.i64 b] e)) := by
  have := PC.start ((w.alloc o1).alloc o2) a b e
  simpa using this
theorem PC.set {g : Nat} {x : Int × Int} {wr : World} (h : PC g x wr) (a b : Int) : PC g (a, b) ((wr.setCell ⟨g, 0, none⟩ (.int .i64 a)).setCell ⟨g, 1, none⟩ (.int .i64 b)) := by
  obtain ⟨l, c0, c1, f0, f1⟩ := h
  exact ⟨by simp [l], by simp [go_sem, c0], by simp [go_sem, c1], by simp [go_sem, f0], by simp [go_sem, f1]⟩
theorem PC.far {g b : Nat} {x : Int × Int} {wr : World} (h : PC g x wr) (hne : b ≠ g) (o1 : Nat) (v1 : Value) : PC g x (wr.setCell ⟨b, o1, none⟩ v1) := by
  obtain ⟨l, c0, c1, f0, f1⟩ := h
  exact ⟨by simp [l], by simp [go_sem, c0], by simp [go_sem, c1], by simp [go_sem, f0], by simp [go_sem, f1]⟩

/-! ### is it a keep -/
theorem ke_f1 {p : Int × Int} (h : paB p.1 p.2 = false) : keB p = false := by unfold keB paP; rw [h]; rfl
theorem ke_f2 {p : Int × Int} (h : paB p.1 p.2 = true) (h2 : ¬ 0 < p.1) : keB p = false := by unfold keB paP; rw [h]; simp; omega
theorem ke_t {p : Int × Int} (h : paB p.1 p.2 = true) (h2 : 0 < p.1) : keB p = decide (p.1 < p.2) := by unfold keB paP; rw [h]; simp [h2]
theorem ke_sm {p : Int × Int} (h : keB p = true) : smP p := by
  unfold keB at h; rw [Bool.and_eq_true] at h; exact smP_of h.1
set_option maxHeartbeats 400000 in
theorem bKeeps_any (p : Int × Int) (w : World) :
    Calls Try.prog 85 #[.agg #[.int .i64 p.1, .int .i64 p.2]] w fun e w' => e = .returned (.bool (keB p)) ∧ Below w.heap.size w w' := by
  have HB0 := Lib.hid (fun o1 => (Below.refl w.heap.size w).alloc (Nat.le_refl _) o1)
  cases h1 : paB p.1 p.2 with
  | false =>
    have HV := Lib.hid (ke_f1 h1)
    have H1 := Lib.hid (baPace_at p.1 p.2 false h1)
    clear h1
    obtain ⟨p1, p2⟩ := p
    simp only at H1 ⊢
    go_enter Try.func85, Try.ntmps85
    go_wp2_with fail
    refine (H1.out _).mono ?_
    rintro e w1 ⟨rfl, hb⟩
    have HB := Lib.hid ((HB0.out _).trans (hb.mono (by simp)))
    clear hb
    go_wp2
    go_ret
    exact ⟨ret_bool HV.out.symm, HB.out⟩
  | true =>
    have H1 := Lib.hid (baPace_at p.1 p.2 true h1)
    by_cases h2 : 0 < p.1
    · have HV := Lib.hid (ke_t h1 h2)
      clear h1
      obtain ⟨p1, p2⟩ := p
      simp only at H1 h2 ⊢
      go_enter Try.func85, Try.ntmps85
      go_wp2_with fail
      refine (H1.out _).mono ?_
      rintro e w1 ⟨rfl, hb⟩
      obtain ⟨s1, c0, c1, f0, f1⟩ := ((PC.start w p1 p2 25).below hb).parts
      have HB := Lib.hid ((HB0.out _).trans (hb.mono (by simp)))
      clear hb
      go_wp2
      go_ret
      exact ⟨ret_bool HV.out.symm, HB.out⟩
    · have HV := Lib.hid (ke_f2 h1 h2)
      clear h1
      obtain ⟨p1, p2⟩ := p
      simp only at H1 h2 ⊢
      go_enter Try.func85, Try.ntmps85
      go_wp2_with fail
      refine (H1.out _).mono ?_
      rintro e w1 ⟨rfl, hb⟩
      obtain ⟨s1, c0, c1, f0, f1⟩ := ((PC.start w p1 p2 25).below hb).parts
      have HB := Lib.hid ((HB0.out _).trans (hb.mono (by simp)))
      clear hb
      go_wp2
      go_ret
      exact ⟨ret_bool HV.out.symm, HB.out⟩
theorem bKeeps_at (p : Int × Int) (r : Bool) (h : keB p = r) (w : World) :
    Calls Try.prog 85 #[.agg #[.int .i64 p.1, .int .i64 p.2]] w fun e w' => e = .returned (.bool r) ∧ Below w.heap.size w w' := by subst h; exact bKeeps_any p w

/-! ### products -/
set_option maxHeartbeats 400000 in
theorem bTimes_any (p q : Int × Int) (w : World) (hp : smP p) (hq : smP q) :
    Calls Try.prog 102 #[.agg #[.int .i64 p.1, .int .i64 p.2], .agg #[.int .i64 q.1, .int .i64 q.2]] w fun e w' =>
      e = .returned (.tuple #[.agg #[.int .i64 (mkV (p.1 * q.1) (p.2 * q.2)).1, .int .i64 (mkV (p.1 * q.1) (p.2 * q.2)).2], .bool (mkOk (p.1 * q.1) (p.2 * q.2))]) ∧ Below w.heap.size w w' := by
  obtain ⟨p1, p2⟩ := p
  obtain ⟨q1, q2⟩ := q
  obtain ⟨⟨a1, a2⟩, a3, a4⟩ := hp
  obtain ⟨⟨b1, b2⟩, b3, b4⟩ := hq
  simp only at a1 a2 a3 a4 b1 b2 b3 b4 ⊢
  have m1 := mul_bd (x := p1) (y := q1) (A := 1000000) (B := 1000000) (by omega) (by omega) (by omega) (by omega)
  have m2 := mul_bd (x := p2) (y := q2) (A := 1000000) (B := 1000000) (by omega) (by omega) (by omega) (by omega)
  have m3 := mul_pos1 a3 b3
  have k1 : IntKind.i64.wrap (p1 * q1) = p1 * q1 := IntWalk.i64_in _ (by omega)
  have k2 : IntKind.i64.wrap (p2 * q2) = p2 * q2 := IntWalk.i64_in _ (by omega)
  have HM := Lib.hid (fun w => baMake_any (p1 * q1) (p2 * q2) w (by omega) (by omega) (by omega) (by omega))
  generalize mkV (p1 * q1) (p2 * q2) = V at *
  generalize mkOk (p1 * q1) (p2 * q2) = R at *
  clear a1 a2 a3 a4 b1 b2 b3 b4 m1 m2 m3
  obtain ⟨V1, V2⟩ := V
  simp only at HM ⊢
  go_enter Try.func102, Try.ntmps102
  go_wp2_with fail
  refine (HM.out _).mono ?_
  rintro e w1 ⟨rfl, hb⟩
  obtain ⟨s, c0, c1, f0, f1⟩ := ((PC.at2 w _ _ 0 0 25).below hb).parts
  have HB := Lib.hid ((Below.three w _ _ _).trans (hb.mono (by simp; omega)))
  clear hb
  go_wp2
  exact bodyPost_ret (v := .tuple #[.agg #[.int .i64 V1, .int .i64 V2], .bool R]) (by simp [results, Try.results102, go_sem, c0, c1]) rfl ⟨rfl, below_set2 HB.out _ _ (by omega)⟩

/-! ### heights -/
def heV (p : Int × Int) (k : Nat) : Int × Int := if hgOk p k then hgV p k else (0, 0)
theorem hg_zero {p : Int × Int} {j : Nat} (h1 : hgOk p j = true) (h2 : hgOk p (j + 1) = false) : hgV p (j + 1) = (0, 0) := by
  rw [hgOk, h1] at h2
  rw [hgV]
  unfold mkV
  have h3 : mkOk ((hgV p j).1 * p.1) ((hgV p j).2 * p.2) = false := by simpa using h2
  rw [h3]; rfl
theorem hg_no {p : Int × Int} {j k : Nat} (h : hgOk p j = false) (hjk : j ≤ k) : hgOk p k = false := by
  cases hk : hgOk p k with
  | false => rfl
  | true => rw [hgOk_le hk j hjk] at h; exact h

set_option maxRecDepth 100000 in
set_option maxHeartbeats 1000000 in
theorem bHeight_any (p : Int × Int) (k : Nat) (w : World) (hp : keB p = true) (hk : k ≤ 20) :
    Calls Try.prog 87 #[.agg #[.int .i64 p.1, .int .i64 p.2], .int .i64 (k : Int)] w fun e w' =>
      e = .returned (.tuple #[.agg #[.int .i64 (heV p k).1, .int .i64 (heV p k).2], .bool (hgOk p k)]) ∧ Below w.heap.size w w' := by
  have HT : Hid (∀ j, hgOk p j = true → ∀ w, Calls Try.prog 102 #[.agg #[.int .i64 (hgV p j).1, .int .i64 (hgV p j).2], .agg #[.int .i64 p.1, .int .i64 p.2]] w fun e w' =>
      e = .returned (.tuple #[.agg #[.int .i64 (hgV p (j + 1)).1, .int .i64 (hgV p (j + 1)).2], .bool (hgOk p (j + 1))]) ∧ Below w.heap.size w w') := fun j hj w => by
    have := bTimes_any (hgV p j) p w (smP_of (hg_pow hp j hj).2.1) (ke_sm hp)
    have e : hgOk p (j + 1) = mkOk ((hgV p j).1 * p.1) ((hgV p j).2 * p.2) := by rw [hgOk, hj]; rfl
    rw [e]
    exact this
  have HV : Hid (heV p k = if hgOk p k then hgV p k else (0, 0)) := rfl
  have HN := Lib.hid (fun j (h : hgOk p j = false) (hjk : j ≤ k) => hg_no h hjk)
  have HZ := Lib.hid (fun j (h1 : hgOk p j = true) (h2 : hgOk p (j + 1) = false) => hg_zero h1 h2)
  have H0 : hgV p 0 = (1, 1) := rfl
  have H00 : hgOk p 0 = true := rfl
  generalize hgOk p = O at *
  generalize hgV p = G at *
  generalize heV p k = V at *
  clear hp
  obtain ⟨p1, p2⟩ := p
  simp only at HT ⊢
  go_enter Try.func87, Try.ntmps87
  go_wp2
  go_loopw [1, 7] (fun b o wr => ∃ j : Nat, j ≤ k ∧ b = .int .i64 ((k : Int) - (j : Int)) ∧ o = .bool (O j) ∧ Below w.heap.size w wr ∧ PC w.heap.size (p1, p2) wr ∧ PC (w.heap.size + 1) (0, 0) wr ∧ PC (w.heap.size + 1 + 1) (G j) wr ∧ (O j = false → G j = (0, 0)))
    (fun b _ _ => (intOf b).toNat)
  case atStart =>
    refine ⟨0, Nat.zero_le _, by simp, by rw [H00], Below.three w _ _ _, ((PC.start w p1 p2 25).grow _).grow _, (PC.at1 w _ 0 0 25).grow _, ?_, fun h => by rw [H00] at h; cases h⟩
    rw [H0]
    exact PC.at2 w _ _ 1 1 25
  case round =>
    obtain ⟨j, hj, rfl, rfl, hb, P1, P2, P3, hz⟩ := hrel
    have HB := Lib.hid hb
    have HP1 := Lib.hid P1
    have HP2 := Lib.hid P2
    have HP3 := Lib.hid P3
    obtain ⟨s1, c0, c1, f0, f1⟩ := P1.parts
    obtain ⟨s2, d0, d1, g0, g1⟩ := P2.parts
    obtain ⟨s3, e0, e1, h0, h1⟩ := P3.parts
    clear hb P1 P2 P3
    cases ho : O j with
    | false =>
      have HVV : Hid (V = (0, 0) ∧ O k = false) := ⟨by rw [HV.out, HN.out j ho hj]; rfl, HN.out j ho hj⟩
      rw [hz ho] at e0 e1
      simp only at e0 e1
      by_cases hlt : 0 < (k : Int) - (j : Int)
      · go_wp2
        exact bodyPost_ret (v := .tuple #[.agg #[.int .i64 0, .int .i64 0], .bool false]) (by simp [results, Try.results87, go_sem, d0, d1]) rfl ⟨by rw [HVV.out.1, HVV.out.2], below_set2 HB.out _ _ (by omega)⟩
      · go_wp2
        exact bodyPost_ret (v := .tuple #[.agg #[.int .i64 0, .int .i64 0], .bool false]) (by simp [results, Try.results87, go_sem, d0, d1]) rfl ⟨by rw [HVV.out.1, HVV.out.2], below_set2 HB.out _ _ (by omega)⟩
    | true =>
      by_cases hlt : 0 < (k : Int) - (j : Int)
      · have HTj := Lib.hid (HT.out j ho)
        have HZj := Lib.hid (HZ.out j ho)
        obtain ⟨x1, hx1⟩ : ∃ x, (G j).1 = x := ⟨_, rfl⟩
        obtain ⟨x2, hx2⟩ : ∃ x, (G j).2 = x := ⟨_, rfl⟩
        rw [hx1, hx2] at HTj
        rw [hx1] at e0
        rw [hx2] at e1
        clear hx1 hx2
        go_wp2_with fail
        refine (HTj.out _).mono ?_
        rintro e w1 ⟨rfl, hb⟩
        have Q1 := HP1.out.below hb
        have Q2 := HP2.out.below hb
        have Q3 := HP3.out.below hb
        have HB1 := Lib.hid (HB.out.trans (hb.mono HB.out.size))
        clear hb c0 c1 f0 f1 d0 d1 g0 g1 e0 e1 h0 h1 s1 s2 s3 HP1 HP2 HP3
        have HQ1 := Lib.hid Q1
        have HQ2 := Lib.hid Q2
        have HQ3 := Lib.hid Q3
        obtain ⟨s3, e0, e1, h0, h1⟩ := Q3.parts
        clear Q1 Q2 Q3
        go_wp2
        go_roundw
        case rel =>
          refine ⟨j + 1, by omega, by congr 1; omega, rfl, below_set2 HB1.out _ _ (by omega), ?_, ?_, HQ3.out.set _ _, HZj.out⟩
          · exact (HQ1.out.far (by omega) _ _).far (by omega) _ _
          · exact (HQ2.out.far (by omega) _ _).far (by omega) _ _
        case measure => simp [intOf]; omega
      · have hjk : j = k := by omega
        subst hjk
        have HVV : Hid (V = G j ∧ O j = true) := ⟨by rw [HV.out, ho]; rfl, ho⟩
        obtain ⟨⟨x1, x2⟩, hx⟩ : ∃ x, G j = x := ⟨_, rfl⟩
        rw [hx] at e0 e1 HVV
        simp only at e0 e1
        go_wp2
        exact bodyPost_ret (v := .tuple #[.agg #[.int .i64 x1, .int .i64 x2], .bool true]) (by simp [results, Try.results87, go_sem, d0, d1]) rfl ⟨by rw [HVV.out.1], below_set2 HB.out _ _ (by omega)⟩
end Go.Proofs.Ytikmkmpekjijpaa
