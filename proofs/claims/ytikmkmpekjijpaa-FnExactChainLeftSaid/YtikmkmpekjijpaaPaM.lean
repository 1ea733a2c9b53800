/- Balls on the program's side: heights, and what is asked of them. -/
import Derived.Test.YtikmkmpekjijpaaPaA
import Derived.Test.YtikmkmpekjijpaaPacB
import Derived.Test.YtikmkmpekjijpaaBalK
import Derived.Test.YtikmkmpekjijpaaBalH
namespace Go.Proofs.Ytikmkmpekjijpaa
open Go.RowKit

set_option maxHeartbeats 1000000 in
theorem isKept_any (p : Int × Int) (w : World) :
    Calls Try.prog 88 #[.agg #[.int .i64 p.1, .int .i64 p.2]] w fun e w' => e = .returned (.bool (keB p)) ∧ Below w.heap.size w w' := by
  have HB0 := Lib.hid (fun o1 => (Below.refl w.heap.size w).alloc (Nat.le_refl _) o1)
  cases h1 : paB p.1 p.2 with
  | false =>
    have HV := Lib.hid (ke_f1 h1)
    have H1 := Lib.hid (isPace_at p.1 p.2 false h1)
    clear h1
    obtain ⟨p1, p2⟩ := p
    simp only at H1 ⊢
    go_enter Try.func88, Try.ntmps88
    go_wp2_with fail
    refine (H1.out _).mono ?_
    rintro e w1 ⟨rfl, hb⟩
    have HB := Lib.hid ((HB0.out _).trans (hb.mono (by simp)))
    clear hb
    go_wp2
    go_ret
    exact ⟨ret_bool HV.out.symm, HB.out⟩
  | true =>
    have H1 := Lib.hid (isPace_at p.1 p.2 true h1)
    by_cases h2 : 0 < p.1
    · have HV := Lib.hid (ke_t h1 h2)
      generalize keB p = K at *
      clear h1
      obtain ⟨p1, p2⟩ := p
      simp only at H1 HV h2 ⊢
      have h0 : ¬ p1 ≤ 0 := by omega
      go_enter Try.func88, Try.ntmps88
      go_wp2_with fail
      refine (H1.out _).mono ?_
      rintro e w1 ⟨rfl, hb⟩
      obtain ⟨_, c0, c1, _, _⟩ := ((PC.start w p1 p2 25).below hb).parts
      simp only at c0 c1
      have HB := Lib.hid ((HB0.out _).trans (hb.mono (by simp)))
      clear hb
      go_wp2
      go_ret
      exact ⟨ret_bool HV.out.symm, HB.out⟩
    · have HV := Lib.hid (ke_f2 h1 h2)
      generalize keB p = K at *
      clear h1
      obtain ⟨p1, p2⟩ := p
      simp only at H1 h2 ⊢
      have h0 : p1 ≤ 0 := by omega
      go_enter Try.func88, Try.ntmps88
      go_wp2_with fail
      refine (H1.out _).mono ?_
      rintro e w1 ⟨rfl, hb⟩
      obtain ⟨_, c0, c1, _, _⟩ := ((PC.start w p1 p2 25).below hb).parts
      simp only at c0 c1
      have HB := Lib.hid ((HB0.out _).trans (hb.mono (by simp)))
      clear hb
      go_wp2
      go_ret
      exact ⟨ret_bool HV.out.symm, HB.out⟩
theorem isKept_at (p : Int × Int) (r : Bool) (h : keB p = r) (w : World) :
    Calls Try.prog 88 #[.agg #[.int .i64 p.1, .int .i64 p.2]] w fun e w' => e = .returned (.bool r) ∧ Below w.heap.size w w' := by
  subst h; exact isKept_any p w

theorem PC.kept {g : Nat} {s : Int × Int} {row : Option Nat} {wr w2 : World} (h : PC g s wr) (hg : wr.grownBy w2 row) (hne : some g ≠ row) : PC g s w2 := by
  have hb := hg.block g h.lt hne
  have hc : ∀ o, w2.cell? ⟨g, o, none⟩ = wr.cell? ⟨g, o, none⟩ := fun o => by simp only [World.cell?, hb]
  have hf : ∀ o, w2.frozen? ⟨g, o, none⟩ = wr.frozen? ⟨g, o, none⟩ := fun o => by simp only [World.frozen?, hb]
  exact ⟨Nat.lt_of_lt_of_le h.lt hg.size, (hc 0).trans h.c0, (hc 1).trans h.c1, (hf 0).trans h.f0, (hf 1).trans h.f1⟩
theorem own_lowP {α : Type} {S : Shape α} {w : World} {B : Nat} {e : TypeId} {x : Value} {l : List α} (h : SlOwn S w B e x l) {g : Nat} (hg : g < B) : some g ≠ x.ownBlock := fun e => by
  have := (World.ownsRow.lt h g e.symm).1
  omega
theorem own_apartP {a b : Option Nat} {g m : Nat} (h : ∀ k, a = some k → k ≠ g) (hk : b = a ∨ b = some m) (hm : g < m) : ∀ k, b = some k → k ≠ g := by
  intro k hb
  rcases hk with e | e
  · exact h k (by rw [← e]; exact hb)
  · rw [hb] at e; injection e with e; omega
theorem own_farP {α : Type} {S : Shape α} {w : World} {B : Nat} {e : TypeId} {x : Value} {l : List α} {b : Nat} (h : SlOwn S w B e x l) (hb : ∀ k, x.ownBlock = some k → k ≠ b) (o : Nat) (v : Value) : SlOwn S (w.setCell ⟨b, o, none⟩ v) B e x l := by
  refine h.kept (ba_set w b o v) ?_
  cases hx : x.ownBlock with
  | none => exact .inl rfl
  | some k => exact .inr fun e => hb k hx (by injection e)

/-- what the program comes to behind k bounces: a height, or what is no pace any more -/
def heP (p : Int × Int) : Nat → Int × Int
  | 0 => (1, 1)
  | k + 1 => prP (hgV p k) p
theorem heP_ok {p : Int × Int} (k : Nat) (h : hgOk p k = true) : heP p k = hgV p k ∧ paP (heP p k) = true := by
  cases k with
  | zero => exact ⟨rfl, (by decide : paP (1, 1) = true)⟩
  | succ k =>
    have h2 : hgOk p k = true := hgOk_le h k (by omega)
    obtain ⟨e1, e2⟩ := hg_next h2
    rw [h] at e1
    exact ⟨(e2 h).symm, e1.symm⟩
theorem heP_no {p : Int × Int} (k : Nat) (h : hgOk p k = true) (h2 : hgOk p (k + 1) = false) : paP (heP p (k + 1)) = false := by
  obtain ⟨e1, _⟩ := hg_next h
  rw [h2] at e1
  exact e1.symm

set_option maxRecDepth 100000 in
set_option maxHeartbeats 4000000 in
theorem heightsOf_any (p : Int × Int) (w : World) (hp : keB p = true) :
    Calls Try.prog 89 #[.agg #[.int .i64 p.1, .int .i64 p.2]] w fun e w' => ∃ A1 n1 c1, e = .returned (.slice A1 n1 c1) ∧ n1 = hgN p ∧ SlOwn pairS w' w.heap.size 25 (.slice A1 n1 c1) (hgL p (hgN p)) ∧ Below w.heap.size w w' := by
  obtain ⟨q1, q2, q3, q4⟩ := hgN_spec hp
  obtain ⟨i0, hi, hz0, hz1, hz2⟩ := info_parts paceInfo
  have HI : Hid (∀ k, k ≤ hgN p → ∀ w, Calls Try.prog 21 #[.agg #[.int .i64 (heP p k).1, .int .i64 (heP p k).2]] w fun e w' => e = .returned (.bool (decide (k < hgN p))) ∧ Below w.heap.size w w') := fun k hk w => by
    refine isPace_at _ _ _ ?_ w
    rcases Nat.lt_or_ge k (hgN p) with h | h
    · rw [show decide (k < hgN p) = true by simp [h]]
      exact (heP_ok k (q2 k h)).2
    · obtain rfl : k = hgN p := by omega
      rw [show decide (hgN p < hgN p) = false by simp]
      obtain ⟨j, hj⟩ : ∃ j, hgN p = j + 1 := ⟨hgN p - 1, by omega⟩
      rw [hj] at q1 q2 ⊢
      exact heP_no j (q2 j (by omega)) q1
  have HP : Hid (∀ k, k < hgN p → ∀ w, Calls Try.prog 99 #[.agg #[.int .i64 (heP p k).1, .int .i64 (heP p k).2], .agg #[.int .i64 p.1, .int .i64 p.2]] w fun e w' => e = .returned (.agg #[.int .i64 (heP p (k + 1)).1, .int .i64 (heP p (k + 1)).2]) ∧ Below w.heap.size w w') := fun k hk w => by
    obtain ⟨e1, e2⟩ := heP_ok k (q2 k hk)
    have e3 : heP p (k + 1) = prP (heP p k) p := by rw [e1]; rfl
    rw [e3]
    exact product_any 1000000 1000000 1000000 1000000 _ p w (smP_sm (smP_of e2)) (smP_sm (ke_sm hp)) (by decide) (by decide) (by decide) (by decide)
  have HL : Hid (∀ k, k < hgN p → hgL p (k + 1) = hgL p k ++ [heP p k]) := fun k hk => by rw [hgL_succ, (heP_ok k (q2 k hk)).1]
  have HLL : Hid (∀ k, (hgL p k).length = k) := hgL_len p
  have HL0 : Hid (hgL p 0 = []) := rfl
  have H0 : Hid (heP p 0 = (1, 1)) := rfl
  clear q1 q2 q3
  generalize hgN p = N at *
  generalize heP p = E at *
  generalize hgL p = L at *
  clear hp
  obtain ⟨p1, p2⟩ := p
  simp only at HP
  go_enter Try.func89, Try.ntmps89
  go_wp2_with fail
  refine (whole_any 1 _).mono ?_
  rintro e w1 ⟨rfl, hb1⟩
  have HK := Lib.hid (((PC.start w p1 p2 25).below hb1).grow (Obj.cells #[Value.int IntKind.i64 1, Value.int IntKind.i64 1] 25))
  have HB1 := Lib.hid ((((Below.refl w.heap.size w).alloc (Nat.le_refl _) (Obj.cells #[Value.int IntKind.i64 p1, Value.int IntKind.i64 p2] 25)).trans (hb1.mono (by simp))))
  have HG1 : w.heap.size < w1.heap.size := by have := hb1.size; simp at this; omega
  have HX := Lib.hid (PC.start w1 1 1 25)
  have HBX := Lib.hid (HB1.out.alloc HB1.out.size (Obj.cells #[Value.int IntKind.i64 1, Value.int IntKind.i64 1] 25))
  clear hb1
  go_wp2
  go_loopw [3, 4] (fun ls px wr => ∃ (k : Nat) (A : Option Addr) (n c g : Nat), k ≤ N ∧ ls = .slice A n c ∧ px = .pointer (some ⟨g, 0, none⟩) ∧ w.heap.size < g ∧ Below w.heap.size w wr ∧ PC w.heap.size (p1, p2) wr ∧ PC g (E k) wr ∧ SlOwn pairS wr (w.heap.size + 1) 25 (.slice A n c) (L k) ∧ (∀ x, (Value.slice A n c).ownBlock = some x → x ≠ g))
    (fun ls _ _ => N - (match ls with | .slice _ n _ => n | _ => 0))
  case atStart =>
    refine ⟨0, none, 0, 0, w1.heap.size, Nat.zero_le _, rfl, rfl, HG1, HBX.out, HK.out, ?_, by rw [HL0.out]; exact SlOwn.nil _ _ _ _, fun x h => by cases h⟩
    rw [H0.out]; exact HX.out
  case round =>
    obtain ⟨k, A, n, c, g, hk, rfl, rfl, hg, hbr, P1, P2, ho, hd⟩ := hrel
    have HBr := Lib.hid hbr
    have HO := Lib.hid ho
    have HD := Lib.hid hd
    have HLk := Lib.hid (HLL.out k)
    have HIk := Lib.hid (HI.out k hk)
    obtain ⟨⟨x1, x2⟩, hx⟩ : ∃ x, E k = x := ⟨_, rfl⟩
    rw [hx] at P2 HIk
    simp only at HIk
    have HP1 := Lib.hid P1
    have HP2 := Lib.hid P2
    obtain ⟨_, c0, c1, _, _⟩ := P1.parts
    obtain ⟨_, d0, d1, _, _⟩ := P2.parts
    simp only at c0 c1 d0 d1
    clear hbr P1 P2 ho hd
    by_cases hlt : k < N
    · have HLSk := Lib.hid (HL.out k hlt)
      have HPk := Lib.hid (HP.out k hlt)
      obtain ⟨⟨y1, y2⟩, hy⟩ : ∃ x, E (k + 1) = x := ⟨_, rfl⟩
      rw [hx, hy] at HPk
      rw [hx] at HLSk
      rw [show decide (k < N) = true by simp [hlt]] at HIk
      simp only at HPk
      have HY := Lib.hid hy
      clear hx hy
      go_wp2_with fail
      refine (HIk.out _).mono ?_
      rintro e w3 ⟨rfl, hb⟩
      have HP1 := Lib.hid (HP1.out.below hb)
      have HP2 := Lib.hid (HP2.out.below hb)
      have HO := Lib.hid (HO.out.below hb)
      have HB3 := Lib.hid (HBr.out.trans (hb.mono HBr.out.size))
      have hlt3 := hb.size
      obtain ⟨s0, c0, c1, _, _⟩ := HP1.out.parts
      obtain ⟨s1, d0, d1, _, _⟩ := HP2.out.parts
      simp only at c0 c1 d0 d1
      clear hb
      have HNL := Lib.hid (own_lowP HO.out (Nat.lt_succ_self _))
      have HNG : Hid (some g ≠ (Value.slice A n c).ownBlock) := fun e => HD.out g e.symm rfl
      go_wp2_with (at_builtin; go_must (refine wpList_append_slsw pairS _ rfl _ _ 37 rfl (w.heap.size + 1) 25 i0 _ 16 Try.underlying37 hi hz0 hz1 hz2 rfl (by decide) (.slice A n c) (L k) rfl (own_alloc HO.out _) _ 1 1 [(x1, x2)] rfl rfl (slAt_one (heap_new (by simp))) (by have := HLk.out; simp only [List.length_cons, List.length_nil]; omega) (by simp; omega) ?_; intro A5 n5 c5 w5 ho5 hg5 hk5; have hs5 : w3.heap.size + 1 ≤ w5.heap.size := (by have := hg5.size; simpa using this); have HP1a := Lib.hid ((HP1.out.grow (Obj.cells #[Value.int .i64 x1, Value.int .i64 x2] 25)).kept hg5 HNL.out); have HP2a := Lib.hid ((HP2.out.grow (Obj.cells #[Value.int .i64 x1, Value.int .i64 x2] 25)).kept hg5 HNG.out); have HBa := Lib.hid ((HB3.out.alloc HB3.out.size (Obj.cells #[Value.int .i64 x1, Value.int .i64 x2] 25)).trans ((ba_grown (own_alloc HO.out _) hg5 (by simp; omega)).mono (by omega))); have HDa := Lib.hid (own_apartP HD.out hk5 (by simp; omega)); have HOa := Lib.hid ho5; obtain ⟨s2, c0, c1, _, _⟩ := HP1a.out.parts; obtain ⟨s3, d0, d1, _, _⟩ := HP2a.out.parts; simp only at c0 c1 d0 d1; clear ho5 hg5 hk5))
      refine (HPk.out _).mono ?_
      rintro e w6 ⟨rfl, hb6⟩
      have HQ1 := Lib.hid ((HP1a.out.grow _).below hb6)
      have HQ2 := Lib.hid ((PC.start w5 x1 x2 _).below hb6)
      have HOb := Lib.hid ((own_alloc HOa.out _).below hb6)
      have HBb := Lib.hid ((HBa.out.alloc HBa.out.size _).trans (hb6.mono (by have := HBa.out.size; simp; omega)))
      have HG5 : w.heap.size < w5.heap.size := s2
      have HDb : Hid (∀ x, (Value.slice A5 n5 c5).ownBlock = some x → x ≠ w5.heap.size) := fun x hx => by have := (World.ownsRow.lt HOa.out x hx).2; omega
      clear hb6
      obtain ⟨s4, a0, a1, af0, af1⟩ := HQ2.out.parts
      simp only at a0 a1
      go_wp2
      go_roundw
      case rel =>
        refine ⟨k + 1, A5, n5, c5, w5.heap.size, by omega, rfl, rfl, HG5, (HBb.out.setCell (show w.heap.size ≤ w5.heap.size by omega) _).setCell (show w.heap.size ≤ w5.heap.size by omega) _, (HQ1.out.far (by omega) _ _).far (by omega) _ _, ?_, ?_, HDb.out⟩
        · rw [HY.out]; exact HQ2.out.set _ _
        · rw [HLSk.out]; exact own_farP (own_farP HOb.out HDb.out _ _) HDb.out _ _
      case measure =>
        have e1 := ba_len HO.out
        have e2 := ba_len HOa.out
        rw [List.length_append, HLk.out] at e2
        rw [HLk.out] at e1
        simp only [List.length_cons, List.length_nil] at e2
        show N - n5 < N - n
        omega
    · obtain rfl : k = N := by omega
      rw [show decide (k < k) = false by simp] at HIk
      clear hx
      go_wp2_with fail
      refine (HIk.out _).mono ?_
      rintro e w3 ⟨rfl, hb⟩
      have HO := Lib.hid (HO.out.below hb)
      have HB3 := Lib.hid (HBr.out.trans (hb.mono HBr.out.size))
      clear hb
      go_wp2
      exact bodyPost_ret (v := .slice A n c) (by simp [results, Try.results89, go_sem]) rfl ⟨A, n, c, rfl, by rw [ba_len HO.out, HLk.out], HO.out.base (by omega), HB3.out⟩
end Go.Proofs.Ytikmkmpekjijpaa
