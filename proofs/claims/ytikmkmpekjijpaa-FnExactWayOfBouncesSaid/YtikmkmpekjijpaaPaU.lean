/- Balls on the program's side: twice the heights together. -/
import Derived.Test.YtikmkmpekjijpaaPaN
namespace Go.Proofs.Ytikmkmpekjijpaa
open Go.RowKit

set_option maxHeartbeats 2000000 in
theorem twice_any (u : Int × Int) (w : World) (h : smP u) :
    Calls Try.prog 92 #[.agg #[.int .i64 u.1, .int .i64 u.2]] w fun e w' => e = .returned (.agg #[.int .i64 (twP u).1, .int .i64 (twP u).2]) ∧ Below w.heap.size w w' := by
  have HP := Lib.hid (fun w => product_any 2 1 1000000 1000000 (2, 1) u w (smB_one 2 (by decide)) (smP_sm h) (by decide) (by decide) (by decide) (by decide))
  have HV : Hid (twP u = prP (2, 1) u) := rfl
  generalize prP (2, 1) u = X at *
  generalize twP u = V at *
  clear h
  obtain ⟨u1, u2⟩ := u
  obtain ⟨x1, x2⟩ := X
  simp only at HP ⊢
  obtain ⟨W2, hW2⟩ : ∃ X, X = (w.alloc (Obj.cells #[Value.int IntKind.i64 u1, Value.int IntKind.i64 u2] 25)).alloc (Obj.cells #[Value.int IntKind.i64 0, Value.int IntKind.i64 0] 25) := ⟨_, rfl⟩
  obtain ⟨_, a1, a2, _, _⟩ : PC w.heap.size (u1, u2) W2 := by rw [hW2]; exact (PC.start w u1 u2 _).grow _
  have HZ : Hid (PZ (w.heap.size + 1) W2) := by show PZ _ _; rw [hW2]; exact PZ.start2 w _ _
  have HB2 : Hid (Below w.heap.size w W2) := by show Below _ _ _; rw [hW2]; exact Below.two w _ _
  simp only at a1 a2
  go_enter Try.func92, Try.ntmps92
  go_wp2
  rw [← hW2]
  clear hW2
  go_region_held3 (fun w' => w'.cell? ⟨w.heap.size, 0, none⟩ = some (.int .i64 u1) ∧ w'.cell? ⟨w.heap.size, 1, none⟩ = some (.int .i64 u2))
    (first | exact ⟨a1, a2⟩ | go_keep)
    (first
      | (go_at_call 84; with_reducible refine (whole_any 2 W2.drew).mono ?_; rintro e q1 ⟨rfl, hbx⟩; have hbw := below_drew hbx; have a1 := Below.cell_some hbw a1; have a2 := Below.cell_some hbw a2; have HZ1 := Lib.hid (HZ.out.below hbw); have HB3 := Lib.hid (HB2.out.trans (hbw.mono HB2.out.size)); clear hbx hbw)
      | (go_at_call 99; with_reducible refine (HP.out q1).mono ?_; rintro e q2 ⟨rfl, hbw⟩; have a1 := Below.cell_some hbw a1; have a2 := Below.cell_some hbw a2; obtain ⟨s, c0, c1, f0, f1⟩ := (HZ1.out.below hbw).parts; have HB4 := Lib.hid (HB3.out.trans (hbw.mono HB3.out.size)); clear hbw))
  go_wp2
  exact bodyPost_ret (v := .agg #[.int .i64 x1, .int .i64 x2]) (by simp [results, Try.results92, go_sem, c0, c1]) rfl ⟨by rw [HV.out], below_set2 HB4.out _ _ (by omega)⟩

theorem sl_set1 {α : Type} {S : Shape α} {w : World} {b off : Nat} {l : List α} (h : SlAt S w (some ⟨b, off, none⟩) l) {g : Nat} (hne : b ≠ g) (o : Nat) (v : Value) : SlAt S (w.setCell ⟨g, o, none⟩ v) (some ⟨b, off, none⟩) l :=
  h.grown (ba_set w g o v) (fun a ha e => by injection ha with ha; injection e with e; rw [← ha] at e; exact hne e.symm)
theorem twP_sm {u : Int × Int} (h : smP u) : smB 2000000 1000000 (twP u) := by
  have := smB.pr (smB_one 2 (A := 2) (by decide)) (smP_sm h) (by decide) (by decide)
  exact this.up (by decide) (by decide)
theorem twS_sm {p : Int × Int} (h : keB p = true) {k : Nat} (hk : hgOk p k = true) : smB 40000000 1000000 (twS p k) := by
  have := tw_bd h hk
  exact ⟨⟨by omega, by omega⟩, by omega, by omega⟩

set_option maxRecDepth 100000 in
set_option maxHeartbeats 8000000 in
theorem sumTwice_any (p : Int × Int) (A : Option Addr) (c : Nat) (l : List (Int × Int)) (w : World) (hp : keB p = true) (hk : hgOk p l.length = true) (hl : ∀ j, j < l.length → l.getD j (0, 0) = hgV p (j + 1)) (hA : SlAt pairS w A l) :
    Calls Try.prog 91 #[.func (.func 92) #[] #[], .slice A l.length c] w fun e w' => e = .returned (.agg #[.int .i64 (twS p l.length).1, .int .i64 (twS p l.length).2]) ∧ Below w.heap.size w w' := by
  have h19 := hg_stop hp _ hk
  have HT : Hid (∀ j, j < l.length → ∀ w, Calls Try.prog 92 #[.agg #[.int .i64 (l.getD j (0, 0)).1, .int .i64 (l.getD j (0, 0)).2]] w fun e w' => e = .returned (.agg #[.int .i64 (twP (hgV p (j + 1))).1, .int .i64 (twP (hgV p (j + 1))).2]) ∧ Below w.heap.size w w') := fun j hj w => by
    rw [hl j hj]
    exact twice_any _ w (smP_of (hg_pow hp _ (hgOk_le hk _ (by omega))).2.1)
  have HP : Hid (∀ j, j < l.length → ∀ w, Calls Try.prog 90 #[.agg #[.int .i64 (twS p j).1, .int .i64 (twS p j).2], .agg #[.int .i64 (twP (hgV p (j + 1))).1, .int .i64 (twP (hgV p (j + 1))).2]] w fun e w' => e = .returned (.agg #[.int .i64 (twS p (j + 1)).1, .int .i64 (twS p (j + 1)).2]) ∧ Below w.heap.size w w') := fun j hj w =>
    plus_any 40000000 1000000 2000000 1000000 (twS p j) (twP (hgV p (j + 1))) w (twS_sm hp (hgOk_le hk j (by omega))) (twP_sm (smP_of (hg_pow hp _ (hgOk_le hk _ (by omega))).2.1)) (by decide) (by decide) (by decide) (by decide)
  have HS0 : Hid (twS p 0 = (0, 1)) := rfl
  have hA0 := hA.below ((Below.refl _ w).alloc (Nat.le_refl _) (Obj.cells #[Value.int IntKind.i64 0, Value.int IntKind.i64 0] 25))
  have h19' : (l.length : Int) ≤ 19 := by omega
  generalize twS p = S at *
  clear hk hl hA hp
  go_enter Try.func91, Try.ntmps91
  go_wp2_with fail
  refine (whole_any 0 _).mono ?_
  rintro e w1 ⟨rfl, hb⟩
  have HA1 := Lib.hid ((hA0.below hb).alloc (Obj.cells #[Value.int IntKind.i64 0, Value.int IntKind.i64 1] 25))
  have HZ0 := Lib.hid (((PC.start w 0 0 25).below hb).grow (Obj.cells #[Value.int IntKind.i64 0, Value.int IntKind.i64 1] 25))
  have HT0 := Lib.hid (PC.start w1 0 1 25)
  have HBa := Lib.hid ((((Below.refl _ w).alloc (Nat.le_refl _) (Obj.cells #[Value.int IntKind.i64 0, Value.int IntKind.i64 0] 25)).trans (hb.mono (by simp))))
  have HB0 := Lib.hid (HBa.out.alloc HBa.out.size (Obj.cells #[Value.int IntKind.i64 0, Value.int IntKind.i64 1] 25))
  have hTw : w.heap.size < w1.heap.size := by have := hb.size; simp at this; omega
  have hlow : ∀ a, A = some a → l ≠ [] → a.block < w1.heap.size := fun a ha hne => by
    rcases (hA0.below hb) with h | ⟨b, off, hb2, hlt, _⟩
    · exact absurd h hne
    · rw [ha] at hb2; injection hb2 with hb2; rw [hb2]; exact hlt
  have HLOW := Lib.hid hlow
  clear hb hA0 hlow HBa
  go_wp2
  go_loopw [11] (fun i wr => ∃ k : Nat, k ≤ l.length ∧ i = .int .i64 (k : Int) ∧ PC w1.heap.size (S k) wr ∧ PC w.heap.size (0, 0) wr ∧ SlAt pairS wr A l ∧ Below w.heap.size w wr)
    (fun i _ => l.length - (intOf i).toNat)
  case atStart => exact ⟨0, Nat.zero_le _, rfl, by rw [HS0.out]; exact HT0.out, HZ0.out, HA1.out, HB0.out⟩
  case round =>
    obtain ⟨k, hk, rfl, hpt, hpz, hsl, hbr⟩ := hrel
    have HPT := Lib.hid hpt
    have HZ := Lib.hid hpz
    have HSL := Lib.hid hsl
    have HB := Lib.hid hbr
    by_cases hlt : k < l.length
    · have hlt' : (k : Int) < (l.length : Int) := by omega
      have hne : l ≠ [] := fun e => by rw [e] at hlt; simp at hlt
      obtain ⟨b, off, rfl, l0, hcl⟩ := (slAt_ants hsl).at_ hlt
      have hbT : b < w1.heap.size := HLOW.out _ rfl hne
      obtain ⟨a0, a1⟩ := hcl k hlt
      have HTk := Lib.hid (HT.out k hlt)
      have HPk := Lib.hid (HP.out k hlt)
      generalize l.getD k (0, 0) = x at *
      generalize twP (hgV p (k + 1)) = y at *
      obtain ⟨x1, x2⟩ := x
      obtain ⟨y1, y2⟩ := y
      obtain ⟨⟨s1, s2⟩, hs⟩ : ∃ s, S k = s := ⟨_, rfl⟩
      obtain ⟨⟨z1, z2⟩, hz⟩ : ∃ s, S (k + 1) = s := ⟨_, rfl⟩
      rw [hs] at HPT hpt HPk
      rw [hz] at HPk
      have HZZ := Lib.hid hz
      simp only at a0 a1 HTk HPk
      clear hs hz hpt hpz hsl hbr hcl
      have kw1 : IntKind.i64.wrap ((k : Int) + 1) = (k : Int) + 1 := IntWalk.i64_in _ (by omega)
      obtain ⟨W2, hW2⟩ : ∃ X, X = wr.alloc (Obj.cells #[Value.int IntKind.i64 x1, Value.int IntKind.i64 x2] 25) := ⟨_, rfl⟩
      have hb2 : Below wr.heap.size wr W2 := by rw [hW2]; exact (Below.refl _ _).alloc (Nat.le_refl _) _
      obtain ⟨_, k0, k1, _, _⟩ : PC wr.heap.size (x1, x2) W2 := by rw [hW2]; exact PC.start wr x1 x2 _
      simp only at k0 k1
      go_wp2
      rw [← hW2]
      have HPTa := Lib.hid (HPT.out.below hb2)
      have HZa := Lib.hid (HZ.out.below hb2)
      have HSLa := Lib.hid (HSL.out.below hb2)
      have HBa := Lib.hid (HB.out.trans (hb2.mono HB.out.size))
      have hTr : w1.heap.size < wr.heap.size := HPT.out.lt
      clear hb2 hW2
      generalize wr.heap.size = G at *
      have hTw' : w1.heap.size ≠ w.heap.size := by omega
      obtain ⟨ts, t0, t1, tf0, tf1⟩ := HPTa.out.parts
      simp only at t0 t1
      go_region_law (first
        | (go_simp; go_at_call 92; with_reducible refine (HTk.out _).mono ?_; rintro e qa ⟨rfl, hbx⟩; have hbw := below_drew hbx; have t0 := Below.cell_some hbw t0; have t1 := Below.cell_some hbw t1; have HPTq := Lib.hid (HPTa.out.below hbw); have HZq := Lib.hid (HZa.out.below hbw); have HBq := Lib.hid (HBa.out.trans (hbw.mono HBa.out.size)); have HSLq := Lib.hid (HSLa.out.below hbw); clear hbx hbw)
        | (go_simp; go_at_call 90; with_reducible refine (HPk.out _).mono ?_; rintro e qb ⟨rfl, hbw⟩; obtain ⟨ts, t0, t1, tf0, tf1⟩ := (HPTq.out.below hbw).parts; have HZr := Lib.hid (HZq.out.below hbw); have HPTr := Lib.hid (HPTq.out.below hbw); have HBr := Lib.hid (HBq.out.trans (hbw.mono HBq.out.size)); have HSLr := Lib.hid (HSLq.out.below hbw); clear hbw; simp only at t0 t1))
      all_goals (
        go_wp2
        go_roundw
        case rel =>
          refine ⟨k + 1, by omega, by congr 1, by rw [HZZ.out]; exact HPTr.out.set _ _, (HZr.out.far hTw' _ _).far hTw' _ _, ?_, (HBr.out.setCell (Nat.le_of_lt hTw) _).setCell (Nat.le_of_lt hTw) _⟩
          exact sl_set1 (sl_set1 HSLr.out (by omega) _ _) (by omega) _ _
        case measure => (simp [intOf]; omega))
    · obtain rfl : k = l.length := by omega
      obtain ⟨⟨s1, s2⟩, hs⟩ : ∃ s, S l.length = s := ⟨_, rfl⟩
      rw [hs] at hpt
      have HV := Lib.hid hs
      obtain ⟨_, t0, t1, _, _⟩ := hpt.parts
      obtain ⟨_, z0, z1, _, _⟩ := hpz.parts
      simp only at t0 t1 z0 z1
      clear hpt hpz hsl hbr hs HPT
      go_wp2
      exact bodyPost_ret (v := .agg #[.int .i64 s1, .int .i64 s2]) (by simp [results, Try.results91, go_sem, z0, z1]) rfl ⟨by rw [HV.out], below_set2 HB.out _ _ (Nat.le_refl _)⟩
end Go.Proofs.Ytikmkmpekjijpaa
