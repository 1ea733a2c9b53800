/- Balls on the model's side, eighth part: a ball between a wall and a great one. Written by gen/balj.py. -/
import Derived.Test.YtikmkmpekjijpaaBalI
import Derived.Test.YtikmkmpekjijpaaSl
import Derived.Test.YtikmkmpekjijpaaStepR
namespace Go.Proofs.Ytikmkmpekjijpaa
open Go.RowKit

theorem PC.keep {g B : Nat} {x : Int × Int} {wr w2 : World} (h : PC g x wr) (hb : Below B wr w2) (hg : g < B) : PC g x w2 :=
  ⟨Nat.lt_of_lt_of_le h.lt hb.size, (hb.cell (p := ⟨g, 0, none⟩) hg).trans h.c0, (hb.cell (p := ⟨g, 1, none⟩) hg).trans h.c1, (hb.frozen (p := ⟨g, 0, none⟩) hg).trans h.f0, (hb.frozen (p := ⟨g, 1, none⟩) hg).trans h.f1⟩
theorem apart_ne {a b : Option Nat} (h : ∀ x, a = some x → b ≠ some x) : b = none ∨ b ≠ a := by
  cases b with
  | none => exact .inl rfl
  | some y => exact .inr fun e => h y e.symm rfl
theorem apart_ne' {a b : Option Nat} (h : ∀ x, a = some x → b ≠ some x) : a = none ∨ a ≠ b := by
  cases a with
  | none => exact .inl rfl
  | some y => exact .inr fun e => h y rfl e.symm
theorem ba_apart {a b a' : Option Nat} {n m : Nat} (hd : ∀ x, a = some x → b ≠ some x) (hl : ∀ x, b = some x → x < n) (hk : a' = a ∨ a' = some m) (hm : n ≤ m) : ∀ x, a' = some x → b ≠ some x := by
  intro x hx hy
  rcases hk with h | h
  · exact hd x (by rw [← h]; exact hx) hy
  · rw [hx] at h
    injection h with h
    have := hl x hy
    omega
theorem ba_apart' {a b b' : Option Nat} {n m : Nat} (hd : ∀ x, a = some x → b ≠ some x) (hl : ∀ x, a = some x → x < n) (hk : b' = b ∨ b' = some m) (hm : n ≤ m) : ∀ x, a = some x → b' ≠ some x := by
  intro x hx hy
  rcases hk with h | h
  · exact hd x hx (by rw [← h]; exact hy)
  · rw [hy] at h
    injection h with h
    have := hl x hx
    omega
theorem paceInfo : (Try.prog.info? 25).map (fun i => (i.zero, i.size, i.bytes)) = some (some (.agg #[.int .i64 0, .int .i64 0]), 2, 16) := by kernel_rfl

theorem ba_set (w : World) (b o : Nat) (v : Value) : w.grownBy (w.setCell ⟨b, o, none⟩ v) (some b) :=
  ⟨rfl, rfl, rfl, (by simp [World.setCell]), fun k _ hk => Below.heap_setCell _ _ _ k (fun e => hk (by rw [e]))⟩
theorem own_alloc {α : Type} {S : Shape α} {w : World} {B : Nat} {e : TypeId} {x : Value} {l : List α} (h : SlOwn S w B e x l) (o : Obj) : SlOwn S (w.alloc o) B e x l := h.below ((Below.refl _ _).alloc (Nat.le_refl _) _)
theorem ba_grown {α : Type} {S : Shape α} {w w' : World} {B : Nat} {e : TypeId} {x : Value} {l : List α} (h : SlOwn S w B e x l) (hg : w.grownBy w' x.ownBlock) (hB : B ≤ w.heap.size) : Below B w w' :=
  (Below.refl B w).grown hg hB (fun k hk => (World.ownsRow.lt h k hk).1)
theorem ba_len {α : Type} {S : Shape α} {w : World} {B n c : Nat} {e : TypeId} {A : Option Addr} {l : List α} (h : SlOwn S w B e (.slice A n c) l) : n = l.length := by
  obtain ⟨_, _, he, _⟩ := h.form
  injection he with _ e2 _
theorem PC.set0 {g : Nat} {x : Int × Int} {wr : World} (h : PC g x wr) (a : Int) : PC g (a, x.2) (wr.setCell ⟨g, 0, none⟩ (.int .i64 a)) := by
  obtain ⟨l, c0, c1, f0, f1⟩ := h
  exact ⟨by simp [l], by simp [go_sem, c0], by simp [go_sem, c1], by simp [go_sem, f0], by simp [go_sem, f1]⟩
theorem own_set1 {α : Type} {S : Shape α} {w : World} {B : Nat} {e : TypeId} {x : Value} {l : List α} {b : Nat} (h : SlOwn S w B e x l) (hb : b < B) (o : Nat) (v : Value) : SlOwn S (w.setCell ⟨b, o, none⟩ v) B e x l := by
  refine h.kept (ba_set w b o v) ?_
  cases hx : x.ownBlock with
  | none => exact .inl rfl
  | some k =>
    have := (World.ownsRow.lt h k hx).1
    exact .inr fun e => by injection e with e; omega
theorem own_set4 {α : Type} {S : Shape α} {w : World} {B : Nat} {e : TypeId} {x : Value} {l : List α} {b1 b2 : Nat} (h : SlOwn S w B e x l) (h1 : b1 < B) (h2 : b2 < B) (v1 v2 v3 v4 : Value) :
    SlOwn S ((((w.setCell ⟨b1, 0, none⟩ v1).setCell ⟨b1, 1, none⟩ v2).setCell ⟨b2, 0, none⟩ v3).setCell ⟨b2, 1, none⟩ v4) B e x l :=
  own_set1 (own_set1 (own_set1 (own_set1 h h1 _ _) h1 _ _) h2 _ _) h2 _ _

set_option maxRecDepth 100000 in
set_option maxHeartbeats 2000000 in
theorem bBox_any (a b : Int) (w : World) (ha : maB a = true) (hb : maB b = true) :
    Calls Try.prog 79 #[.int .i64 a, .int .i64 b] w fun e w' => ∃ A1 n1 c1 A2 n2 c2, e = .returned (.tuple #[.slice A1 n1 c1, .slice A2 n2 c2, .bool (bxBoth a b (bxK a b))]) ∧ n1 = bxK a b ∧ n2 = bxK a b ∧
      SlOwn pairS w' w.heap.size 25 (.slice A1 n1 c1) (bxU a b (bxK a b)) ∧ SlOwn pairS w' w.heap.size 25 (.slice A2 n2 c2) (bxV a b (bxK a b)) ∧ (∀ x, (Value.slice A1 n1 c1).ownBlock = some x → (Value.slice A2 n2 c2).ownBlock ≠ some x) ∧ Below w.heap.size w w' := by
  obtain ⟨q1, q2, q3, q4, q5, q6⟩ := bx_facts ha hb
  obtain ⟨i0, hi, hz0, hz1, hz2⟩ := info_parts paceInfo
  have HF : Hid (∀ k, k ≤ bxK a b → ¬ (bxN a b k).1.1 < 0 → ∀ w, Calls Try.prog 66 #[.agg #[.int .i64 (bxN a b k).1.1, .int .i64 (bxN a b k).1.2], .agg #[.int .i64 (bxN a b k).2.1, .int .i64 (bxN a b k).2.2]] w fun e w' => e = .returned (.bool (decide (k < bxK a b))) ∧ Below w.heap.size w w') := fun k hk hn w => by
    have h3 := q3 k hk
    refine bFaster_at _ _ _ ?_ w (smP_of h3.1) (smP_of h3.2)
    rcases Nat.lt_or_ge k (bxK a b) with h | h
    · have h1 := q1 k h
      unfold bxGo at h1
      rw [Bool.or_eq_true, decide_eq_true_eq] at h1
      rw [h1.resolve_left hn]; simp [h]
    · obtain rfl : k = bxK a b := by omega
      have h1 := q2
      unfold bxGo at h1
      rw [Bool.or_eq_false_iff] at h1
      rw [h1.2]; simp
  have HC : Hid (∀ k, k < bxK a b → ¬ (bxN a b k).1.1 < 0 → ∀ w, Calls Try.prog 67 #[.int .i64 a, .agg #[.int .i64 (bxN a b k).1.1, .int .i64 (bxN a b k).1.2], .int .i64 b, .agg #[.int .i64 (bxN a b k).2.1, .int .i64 (bxN a b k).2.2]] w fun e w' =>
      e = .returned (.tuple #[.agg #[.int .i64 (bxN a b (k + 1)).1.1, .int .i64 (bxN a b (k + 1)).1.2], .agg #[.int .i64 (bxN a b (k + 1)).2.1, .int .i64 (bxN a b (k + 1)).2.2], .bool true]) ∧ Below w.heap.size w w') := fun k hk hn w => by
    have h3 := q3 k (by omega)
    have h4 := (q4 k hk).resolve_left hn
    have e : bxN a b (k + 1) = clV a (bxN a b k).1 b (bxN a b k).2 := by rw [bxN]; unfold bxStep; rw [if_neg hn]
    have := bClack_any a b (bxN a b k).1 (bxN a b k).2 w ((maB_iff a).1 ha) ((maB_iff b).1 hb) (smP_of h3.1) (smP_of h3.2)
    rw [h4] at this
    rw [e]
    exact this
  have HNE : Hid (∀ k, (bxN a b k).1.1 < 0 → bxN a b (k + 1) = ((-(bxN a b k).1.1, (bxN a b k).1.2), (bxN a b k).2)) := fun k h => by rw [bxN]; unfold bxStep; rw [if_pos h]
  have HSM : Hid (∀ k, k ≤ bxK a b → smP (bxN a b k).1) := fun k hk => smP_of (q3 k hk).1
  have HGO : Hid (¬ (bxN a b (bxK a b)).1.1 < 0) := fun h => by
    have h1 := q2
    unfold bxGo at h1
    rw [Bool.or_eq_false_iff, decide_eq_false_iff_not] at h1
    exact h1.1 h
  have HUS : Hid (∀ k, bxU a b (k + 1) = bxU a b k ++ [(bxN a b (k + 1)).1]) := bxU_succ a b
  have HVS : Hid (∀ k, bxV a b (k + 1) = bxV a b k ++ [(bxN a b (k + 1)).2]) := bxV_succ a b
  have HUL : Hid (∀ k, (bxU a b k).length = k) := bxU_len a b
  have HVL : Hid (∀ k, (bxV a b k).length = k) := bxV_len a b
  have HBO : Hid (∀ k, bxBoth a b (k + 1) = !decide ((bxN a b k).1.1 < 0)) := fun _ => rfl
  have H0 : Hid (bxN a b 0 = ((0, 1), (-1, 1))) := rfl
  have HU0 : Hid (bxU a b 0 = []) := rfl
  have HV0 : Hid (bxV a b 0 = []) := rfl
  have HB0 : Hid (bxBoth a b 0 = false) := rfl
  clear q1 q2 q3 q4 q5 ha hb
  generalize bxK a b = K at *
  generalize bxN a b = N at *
  generalize bxU a b = U at *
  generalize bxV a b = V at *
  generalize bxBoth a b = BO at *
  go_enter Try.func79, Try.ntmps79
  go_wp2
  go_loopw [9, 10, 11] (fun us vs bo wr => ∃ (k : Nat) (A9 : Option Addr) (n9 c9 : Nat) (A10 : Option Addr) (n10 c10 : Nat), k ≤ K ∧ us = .slice A9 n9 c9 ∧ vs = .slice A10 n10 c10 ∧ bo = .bool (BO k) ∧ Below w.heap.size w wr ∧ PC w.heap.size (N k).1 wr ∧ PC (w.heap.size + 1) (N k).2 wr ∧
      SlOwn pairS wr (w.heap.size + 1 + 1) 25 (.slice A9 n9 c9) (U k) ∧ SlOwn pairS wr (w.heap.size + 1 + 1) 25 (.slice A10 n10 c10) (V k) ∧ (∀ x, (Value.slice A9 n9 c9).ownBlock = some x → (Value.slice A10 n10 c10).ownBlock ≠ some x))
    (fun us _ _ _ => K - (match us with | .slice _ n _ => n | _ => 0))
  case atStart =>
    refine ⟨0, none, 0, 0, none, 0, 0, Nat.zero_le _, rfl, rfl, by rw [HB0.out], Below.two w _ _, ?_, ?_, by rw [HU0.out]; exact SlOwn.nil _ _ _ _, by rw [HV0.out]; exact SlOwn.nil _ _ _ _, fun x h => by cases h⟩
    · rw [H0.out]; exact (PC.start w 0 1 25).grow _
    · rw [H0.out]; exact PC.at1 w _ (-1) 1 25
  case round =>
    obtain ⟨k, A9, n9, c9, A10, n10, c10, hk, rfl, rfl, rfl, hbr, P1, P2, ho9, ho10, hdi⟩ := hrel
    have HBr := Lib.hid hbr
    have HP1 := Lib.hid P1
    have HP2 := Lib.hid P2
    have HO9 := Lib.hid ho9
    have HO10 := Lib.hid ho10
    have HDI := Lib.hid hdi
    have HLU := Lib.hid (HUL.out k)
    have HLV := Lib.hid (HVL.out k)
    have HFk := Lib.hid (HF.out k hk)
    have HCk := Lib.hid (HC.out k)
    have HNk := Lib.hid (HNE.out k)
    have HSk := HSM.out k hk
    have HBk := Lib.hid (HBO.out k)
    have HUk := Lib.hid (HUS.out k)
    have HVk := Lib.hid (HVS.out k)
    clear hbr ho9 ho10 hdi
    obtain ⟨⟨⟨u1, u2⟩, ⟨v1, v2⟩⟩, hx⟩ : ∃ x, N k = x := ⟨_, rfl⟩
    obtain ⟨⟨⟨a1, a2⟩, ⟨b1, b2⟩⟩, hy⟩ : ∃ x, N (k + 1) = x := ⟨_, rfl⟩
    rw [hx] at HP1 HP2 P1 P2 HFk HCk HNk HSk HBk
    rw [hy] at HCk HNk HUk HVk
    simp only at HP1 HP2 P1 P2 HFk HCk HNk HSk HBk HUk HVk
    obtain ⟨s1, c0, c1, f0, f1⟩ := P1.parts
    obtain ⟨s2, d0, d1, g0, g1⟩ := P2.parts
    have HX := Lib.hid hx
    have HY := Lib.hid hy
    clear P1 P2 hx hy
    by_cases hu : u1 < 0
    · have h1 := HNk.out hu
      simp only [Prod.mk.injEq] at h1
      obtain ⟨⟨rfl, rfl⟩, rfl, rfl⟩ := h1
      have hlt : k < K := by
        rcases (by omega : k < K ∨ k = K) with h | h
        · exact h
        · subst h
          have h2 := HGO.out
          rw [HX.out] at h2
          simp only at h2
          omega
      have kn : IntKind.i64.wrap (-u1) = -u1 := IntWalk.i64_in _ (by have := HSk.1; simp only at this; omega)
      have HBk2 : Hid (BO (k + 1) = false) := by show _ = _; rw [HBk.out]; simp [hu]
      have h0u : ¬ 0 ≤ u1 := by omega
      have HO9m := HO9
      have HOA := Lib.hid (own_set1 HO9.out (b := w.heap.size) (by omega) 0 (.int .i64 (-u1)))
      have HOB := Lib.hid (own_set1 HO10.out (b := w.heap.size) (by omega) 0 (.int .i64 (-u1)))
      have HPA := Lib.hid (HP1.out.set0 (-u1))
      have HPB := Lib.hid (HP2.out.far (b := w.heap.size) (by omega) 0 (.int .i64 (-u1)))
      have HBW := Lib.hid (HBr.out.setCell (p := ⟨w.heap.size, 0, none⟩) (Nat.le_refl _) (.int .i64 (-u1)))
      clear HFk HCk HNk
      go_wp2_with (at_builtin; first | (have h7 := HOB7; clear h7; refine wpList_append_slsw pairS _ rfl _ _ 37 rfl (w.heap.size + 1 + 1) 25 i0 _ 16 Try.underlying37 hi hz0 hz1 hz2 rfl (by decide) (.slice A10 n10 c10) (V k) rfl (own_alloc HOB7.out _) _ 1 1 [(b1, b2)] rfl rfl (slAt_one (heap_new (by simp))) (by have := HLV.out; simp only [List.length_cons, List.length_nil]; omega) (by simp; omega) ?_; intro A8 n8 k8 w8 ho8 hg8 hk8; have HB8 := Lib.hid (ba_grown (own_alloc HOB7.out _) hg8 (by simp; omega)); have HOA8 := Lib.hid ((own_alloc HO7.out (Obj.cells #[Value.int .i64 b1, Value.int .i64 b2] 25)).kept hg8 (apart_ne' HDI7.out)); have HDI8 := Lib.hid (ba_apart' HDI7.out (fun x hx => (World.ownsRow.lt HO7.out x hx).2) hk8 (by simp)); have HPA8 := Lib.hid ((HPA7.out.grow (Obj.cells #[Value.int .i64 b1, Value.int .i64 b2] 25)).keep HB8.out (by omega)); have HPB8 := Lib.hid ((HPB7.out.grow (Obj.cells #[Value.int .i64 b1, Value.int .i64 b2] 25)).keep HB8.out (by omega)); have HBW8 := Lib.hid ((HBW7.out.alloc HBW7.out.size (Obj.cells #[Value.int .i64 b1, Value.int .i64 b2] 25)).trans (HB8.out.mono (by omega))); have HO8 := Lib.hid ho8; clear hk8 hg8 ho8) | (refine wpList_append_slsw pairS _ rfl _ _ 37 rfl (w.heap.size + 1 + 1) 25 i0 _ 16 Try.underlying37 hi hz0 hz1 hz2 rfl (by decide) (.slice A9 n9 c9) (U k) rfl (own_alloc HOA.out _) _ 1 1 [((-u1), a2)] rfl rfl (slAt_one (heap_new (by simp))) (by have := HLU.out; simp only [List.length_cons, List.length_nil]; omega) (by simp; omega) ?_; intro A7 n7 k7 w7 ho7 hg7 hk7; have HB7 := Lib.hid (ba_grown (own_alloc HOA.out _) hg7 (by simp; omega)); have HOB7 := Lib.hid ((own_alloc HOB.out (Obj.cells #[Value.int .i64 (-u1), Value.int .i64 a2] 25)).kept hg7 (apart_ne HDI.out)); have HDI7 := Lib.hid (ba_apart HDI.out (fun x hx => (World.ownsRow.lt HOB.out x hx).2) hk7 (by simp)); have HPA7 := Lib.hid ((HPA.out.grow (Obj.cells #[Value.int .i64 (-u1), Value.int .i64 a2] 25)).keep HB7.out (by omega)); have HPB7 := Lib.hid ((HPB.out.grow (Obj.cells #[Value.int .i64 (-u1), Value.int .i64 a2] 25)).keep HB7.out (by omega)); have HBW7 := Lib.hid ((HBW.out.alloc HBW.out.size (Obj.cells #[Value.int .i64 (-u1), Value.int .i64 a2] 25)).trans (HB7.out.mono (by omega))); have hs7 : w.heap.size + 1 < w7.heap.size := HPB7.out.lt; have HO7 := Lib.hid ho7; have d0 := HPB7.out.c0; have d1 := HPB7.out.c1; clear hk7 hg7 ho7))
      go_roundw
      case rel =>
        refine ⟨k + 1, A7, n7, k7, A8, n8, k8, by omega, rfl, rfl, by rw [HBk2.out], HBW8.out, ?_, ?_, ?_, ?_, HDI8.out⟩
        · rw [HY.out]; exact HPA8.out
        · rw [HY.out]; exact HPB8.out
        · rw [HUk.out]; exact HOA8.out
        · rw [HVk.out]; exact HO8.out
      case measure =>
        have e1 := ba_len HO9m.out
        have e2 := ba_len HOA8.out
        rw [List.length_append, HLU.out] at e2
        rw [HLU.out] at e1
        simp only [List.length_cons, List.length_nil] at e2
        show K - n7 < K - n9
        omega
    · by_cases hlt : k < K
      · have HFk2 := Lib.hid (HFk.out (by omega))
        have HCk2 := Lib.hid (HCk.out hlt (by omega))
        rw [show decide (k < K) = true by simp [hlt]] at HFk2
        have h0u : 0 ≤ u1 := by omega
        have HBk2 : Hid (BO (k + 1) = true) := by show _ = _; rw [HBk.out]; simp [hu]
        clear HFk HCk HNk
        go_wp2_with fail
        refine (HFk2.out _).mono ?_
        rintro e w1 ⟨rfl, hb⟩
        have P1 := HP1.out.below hb
        have P2 := HP2.out.below hb
        have c0 := Below.cell_some hb c0
        have c1 := Below.cell_some hb c1
        have d0 := Below.cell_some hb d0
        have d1 := Below.cell_some hb d1
        have HB1 := Lib.hid (HBr.out.trans (hb.mono HBr.out.size))
        have HO9b := Lib.hid (HO9.out.below hb)
        have HO10b := Lib.hid (HO10.out.below hb)
        have HP1b := Lib.hid P1
        have HP2b := Lib.hid P2
        clear hb P1 P2
        go_wp2_with fail
        refine (HCk2.out _).mono ?_
        rintro e w2 ⟨rfl, hb⟩
        have Q1 := HP1b.out.below hb
        have Q2 := HP2b.out.below hb
        have HB2 := Lib.hid (HB1.out.trans (hb.mono HB1.out.size))
        have HO9c := Lib.hid (HO9b.out.below hb)
        have HO10c := Lib.hid (HO10b.out.below hb)
        have HQ1 := Lib.hid Q1
        have HQ2 := Lib.hid Q2
        obtain ⟨r1, e0, e1, ef0, ef1⟩ := Q1.parts
        obtain ⟨r2, y0, y1, yf0, yf1⟩ := Q2.parts
        clear hb Q1 Q2 HO10 HO9b HO10b HP1b HP2b HP1 HP2 HBr HB1 c0 c1 d0 d1 f0 f1 g0 g1 s1 s2
        have HO9m := HO9
        clear HO9
        have HOA := Lib.hid (own_set4 HO9c.out (by omega) (by omega) (.int .i64 a1) (.int .i64 a2) (.int .i64 b1) (.int .i64 b2) (b1 := w.heap.size) (b2 := w.heap.size + 1))
        have HOB := Lib.hid (own_set4 HO10c.out (by omega) (by omega) (.int .i64 a1) (.int .i64 a2) (.int .i64 b1) (.int .i64 b2) (b1 := w.heap.size) (b2 := w.heap.size + 1))
        have HPA := Lib.hid (((HQ1.out.set a1 a2).far (b := w.heap.size + 1) (by omega) 0 (.int .i64 b1)).far (b := w.heap.size + 1) (by omega) 1 (.int .i64 b2))
        have HPB := Lib.hid (((HQ2.out.far (b := w.heap.size) (by omega) 0 (.int .i64 a1)).far (b := w.heap.size) (by omega) 1 (.int .i64 a2)).set b1 b2)
        have HBW := Lib.hid (below_set4 HB2.out (.int .i64 a1) (.int .i64 a2) (.int .i64 b1) (.int .i64 b2) (b1 := w.heap.size) (b2 := w.heap.size + 1) (by omega) (by omega))
        go_wp2_with (at_builtin; first | (have h7 := HOB7; clear h7; refine wpList_append_slsw pairS _ rfl _ _ 37 rfl (w.heap.size + 1 + 1) 25 i0 _ 16 Try.underlying37 hi hz0 hz1 hz2 rfl (by decide) (.slice A10 n10 c10) (V k) rfl (own_alloc HOB7.out _) _ 1 1 [(b1, b2)] rfl rfl (slAt_one (heap_new (by simp))) (by have := HLV.out; simp only [List.length_cons, List.length_nil]; omega) (by simp; omega) ?_; intro A8 n8 k8 w8 ho8 hg8 hk8; have HB8 := Lib.hid (ba_grown (own_alloc HOB7.out _) hg8 (by simp; omega)); have HOA8 := Lib.hid ((own_alloc HO7.out (Obj.cells #[Value.int .i64 b1, Value.int .i64 b2] 25)).kept hg8 (apart_ne' HDI7.out)); have HDI8 := Lib.hid (ba_apart' HDI7.out (fun x hx => (World.ownsRow.lt HO7.out x hx).2) hk8 (by simp)); have HPA8 := Lib.hid ((HPA7.out.grow (Obj.cells #[Value.int .i64 b1, Value.int .i64 b2] 25)).keep HB8.out (by omega)); have HPB8 := Lib.hid ((HPB7.out.grow (Obj.cells #[Value.int .i64 b1, Value.int .i64 b2] 25)).keep HB8.out (by omega)); have HBW8 := Lib.hid ((HBW7.out.alloc HBW7.out.size (Obj.cells #[Value.int .i64 b1, Value.int .i64 b2] 25)).trans (HB8.out.mono (by omega))); have HO8 := Lib.hid ho8; clear hk8 hg8 ho8) | (refine wpList_append_slsw pairS _ rfl _ _ 37 rfl (w.heap.size + 1 + 1) 25 i0 _ 16 Try.underlying37 hi hz0 hz1 hz2 rfl (by decide) (.slice A9 n9 c9) (U k) rfl (own_alloc HOA.out _) _ 1 1 [(a1, a2)] rfl rfl (slAt_one (heap_new (by simp))) (by have := HLU.out; simp only [List.length_cons, List.length_nil]; omega) (by simp; omega) ?_; intro A7 n7 k7 w7 ho7 hg7 hk7; have HB7 := Lib.hid (ba_grown (own_alloc HOA.out _) hg7 (by simp; omega)); have HOB7 := Lib.hid ((own_alloc HOB.out (Obj.cells #[Value.int .i64 a1, Value.int .i64 a2] 25)).kept hg7 (apart_ne HDI.out)); have HDI7 := Lib.hid (ba_apart HDI.out (fun x hx => (World.ownsRow.lt HOB.out x hx).2) hk7 (by simp)); have HPA7 := Lib.hid ((HPA.out.grow (Obj.cells #[Value.int .i64 a1, Value.int .i64 a2] 25)).keep HB7.out (by omega)); have HPB7 := Lib.hid ((HPB.out.grow (Obj.cells #[Value.int .i64 a1, Value.int .i64 a2] 25)).keep HB7.out (by omega)); have HBW7 := Lib.hid ((HBW.out.alloc HBW.out.size (Obj.cells #[Value.int .i64 a1, Value.int .i64 a2] 25)).trans (HB7.out.mono (by omega))); have hs7 : w.heap.size + 1 < w7.heap.size := HPB7.out.lt; have HO7 := Lib.hid ho7; have d0 := HPB7.out.c0; have d1 := HPB7.out.c1; clear hk7 hg7 ho7))
        go_roundw
        case rel =>
          refine ⟨k + 1, A7, n7, k7, A8, n8, k8, by omega, rfl, rfl, by rw [HBk2.out], HBW8.out, ?_, ?_, ?_, ?_, HDI8.out⟩
          · rw [HY.out]; exact HPA8.out
          · rw [HY.out]; exact HPB8.out
          · rw [HUk.out]; exact HOA8.out
          · rw [HVk.out]; exact HO8.out
        case measure =>
          have e1 := ba_len HO9m.out
          have e2 := ba_len HOA8.out
          rw [List.length_append, HLU.out] at e2
          rw [HLU.out] at e1
          simp only [List.length_cons, List.length_nil] at e2
          show K - n7 < K - n9
          omega
      · obtain rfl : k = K := by omega
        have HFk2 := Lib.hid (HFk.out (by omega))
        rw [show decide (k < k) = false by simp] at HFk2
        clear HFk HCk HNk
        have h0u : 0 ≤ u1 := by omega
        have e1 := ba_len HO9.out
        have e2 := ba_len HO10.out
        rw [HLU.out] at e1
        rw [HLV.out] at e2
        have HE1 := Lib.hid e1
        have HE2 := Lib.hid e2
        clear e1 e2
        go_wp2_with fail
        refine (HFk2.out _).mono ?_
        rintro e w1 ⟨rfl, hb⟩
        have HB1 := Lib.hid (HBr.out.trans (hb.mono HBr.out.size))
        have HO9b := Lib.hid (HO9.out.below hb)
        have HO10b := Lib.hid (HO10.out.below hb)
        clear hb
        go_wp2
        exact bodyPost_ret (v := .tuple #[.slice A9 n9 c9, .slice A10 n10 c10, .bool (BO k)]) (by simp [results, Try.results79, go_sem]) rfl ⟨A9, n9, c9, A10, n10, c10, rfl, HE1.out, HE2.out, HO9b.out.base (by omega), HO10b.out.base (by omega), HDI.out, HB1.out⟩
end Go.Proofs.Ytikmkmpekjijpaa
