/- Balls on the program's side: two couples compared; clacks one behind the other. -/
import Derived.Test.YtikmkmpekjijpaaPaC
import Derived.Test.YtikmkmpekjijpaaBalK
import Derived.ChangeKeysEq
namespace Go.Proofs.Ytikmkmpekjijpaa
open Go.RowKit

theorem cpArr : Try.prog.underlying 71 = some (.array 2 25) := by kernel_rfl
theorem cpGuard : Try.prog.eqGuardType Try.prog.depth 71 = false := by kernel_rfl
theorem cellsPaceI : Try.prog.cellsOf 25 = 2 := by kernel_rfl
theorem eq_couple (a b c d a' b' c' d' : Int) (w : World) : (Op.equalIn 10000 71 (.agg #[.int .i64 a, .int .i64 b, .int .i64 c, .int .i64 d]) (.agg #[.int .i64 a', .int .i64 b', .int .i64 c', .int .i64 d'])).run Try.prog w = .ok (decide (((a, b), (c, d)) = ((a', b'), (c', d')))) w := by
  obtain ⟨i0, hi, _⟩ := info_parts paceInfo
  have h1 := run_equalIn_array (P := Try.prog) w 9999 (t := 71) #[.int .i64 a, .int .i64 b, .int .i64 c, .int .i64 d] #[.int .i64 a', .int .i64 b', .int .i64 c', .int .i64 d'] cpArr hi
  refine Eq.trans h1 ?_
  rw [cellsPaceI, show List.range 2 = [0, 1] from rfl]
  simp [Op.eqItems, go_sem]
  by_cases h1 : a = a' <;> by_cases h2 : b = b' <;> by_cases h3 : c = c' <;> by_cases h4 : d = d' <;> simp [h1, h2, h3, h4]

/-- couples in a row -/
def coupS : Shape St := ⟨4, fun s => [.int .i64 s.1.1, .int .i64 s.1.2, .int .i64 s.2.1, .int .i64 s.2.2], fun _ => rfl, fun _ u hu => by simp at hu; rcases hu with rfl | rfl | rfl | rfl <;> rfl, by omega⟩
theorem couInfo : (Try.prog.info? 71).map (fun i => (i.zero, i.size, i.bytes)) = some (some (.agg #[.int .i64 0, .int .i64 0, .int .i64 0, .int .i64 0]), 4, 32) := by kernel_rfl
theorem slAt_cp {w : World} {g : Nat} {a b c d : Int} {e : TypeId} {m : Nat × Nat} (h : w.heap[g]? = some (.cells #[.int .i64 a, .int .i64 b, .int .i64 c, .int .i64 d] e m)) : SlAt coupS w (some ⟨g, 0, none⟩) [((a, b), (c, d))] := by
  refine .inr ⟨g, 0, rfl, (Array.getElem?_eq_some_iff.1 h).1, fun k x hk j hj => ?_⟩
  cases k with
  | succ k => simp at hk
  | zero =>
    simp only [List.getElem?_cons_zero, Option.some.injEq] at hk
    subst hk
    simp only [Nat.zero_mul, Nat.zero_add]
    rw [cell_of_row w g j _ _ _ h, ← Array.getElem?_toList]
    rfl
theorem CP.far {g b : Nat} {s : St} {wr : World} (h : CP g s wr) (hne : b ≠ g) (o1 : Nat) (v1 : Value) : CP g s (wr.setCell ⟨b, o1, none⟩ v1) := by
  obtain ⟨l, c0, c1, c2, c3, f0, f1, f2, f3⟩ := h
  exact ⟨by simp [l], by simp [go_sem, c0], by simp [go_sem, c1], by simp [go_sem, c2], by simp [go_sem, c3], by simp [go_sem, f0], by simp [go_sem, f1], by simp [go_sem, f2], by simp [go_sem, f3]⟩
theorem CP.far4 {g b : Nat} {s : St} {wr : World} (h : CP g s wr) (hne : b ≠ g) (v1 v2 v3 v4 : Value) : CP g s ((((wr.setCell ⟨b, 0, none⟩ v1).setCell ⟨b, 1, none⟩ v2).setCell ⟨b, 2, none⟩ v3).setCell ⟨b, 3, none⟩ v4) :=
  (((h.far hne _ _).far hne _ _).far hne _ _).far hne _ _
theorem CP.keep {g B : Nat} {s : St} {wr w2 : World} (h : CP g s wr) (hg : wr.grownBy w2 (some B)) (hne : g ≠ B) : CP g s w2 := by
  have hb := hg.block g h.lt (fun e => hne (by injection e))
  have hc : ∀ o, w2.cell? ⟨g, o, none⟩ = wr.cell? ⟨g, o, none⟩ := fun o => by simp only [World.cell?, hb]
  have hf : ∀ o, w2.frozen? ⟨g, o, none⟩ = wr.frozen? ⟨g, o, none⟩ := fun o => by simp only [World.frozen?, hb]
  exact ⟨Nat.lt_of_lt_of_le h.lt hg.size, (hc 0).trans h.c0, (hc 1).trans h.c1, (hc 2).trans h.c2, (hc 3).trans h.c3, (hf 0).trans h.f0, (hf 1).trans h.f1, (hf 2).trans h.f2, (hf 3).trans h.f3⟩
theorem CP.kept {g : Nat} {s : St} {row : Option Nat} {wr w2 : World} (h : CP g s wr) (hg : wr.grownBy w2 row) (hne : some g ≠ row) : CP g s w2 := by
  have hb := hg.block g h.lt hne
  have hc : ∀ o, w2.cell? ⟨g, o, none⟩ = wr.cell? ⟨g, o, none⟩ := fun o => by simp only [World.cell?, hb]
  have hf : ∀ o, w2.frozen? ⟨g, o, none⟩ = wr.frozen? ⟨g, o, none⟩ := fun o => by simp only [World.frozen?, hb]
  exact ⟨Nat.lt_of_lt_of_le h.lt hg.size, (hc 0).trans h.c0, (hc 1).trans h.c1, (hc 2).trans h.c2, (hc 3).trans h.c3, (hf 0).trans h.f0, (hf 1).trans h.f1, (hf 2).trans h.f2, (hf 3).trans h.f3⟩
theorem CP.startS (w : World) (s : Nat) (h : w.heap.size = s) (a b c d : Int) (e : TypeId) : CP s ((a, b), (c, d)) (w.alloc (Obj.cells #[Value.int IntKind.i64 a, Value.int IntKind.i64 b, Value.int IntKind.i64 c, Value.int IntKind.i64 d] e)) := by
  subst h; exact CP.start w a b c d e
theorem size_set4 (w : World) (b : Nat) (v1 v2 v3 v4 : Value) : ((((w.setCell ⟨b, 0, none⟩ v1).setCell ⟨b, 1, none⟩ v2).setCell ⟨b, 2, none⟩ v3).setCell ⟨b, 3, none⟩ v4).heap.size = w.heap.size := by simp [World.setCell]
theorem own_low {α : Type} {S : Shape α} {w : World} {B : Nat} {e : TypeId} {x : Value} {l : List α} (h : SlOwn S w B e x l) {g : Nat} (hg : g < B) : some g ≠ x.ownBlock := fun e => by
  have := (World.ownsRow.lt h g e.symm).1
  omega
theorem own_ne {x : Value} {g : Nat} (h : ∀ k, x.ownBlock = some k → k ≠ g) : some g ≠ x.ownBlock := fun e => h g e.symm rfl
theorem own_apart {a b : Option Nat} {g m : Nat} (h : ∀ k, a = some k → k ≠ g) (hk : b = a ∨ b = some m) (hm : g < m) : ∀ k, b = some k → k ≠ g := by
  intro k hb
  rcases hk with e | e
  · exact h k (by rw [← e]; exact hb)
  · rw [hb] at e; injection e with e; omega
theorem own_far {α : Type} {S : Shape α} {w : World} {B : Nat} {e : TypeId} {x : Value} {l : List α} {b : Nat} (h : SlOwn S w B e x l) (hb : ∀ k, x.ownBlock = some k → k ≠ b) (o : Nat) (v : Value) : SlOwn S (w.setCell ⟨b, o, none⟩ v) B e x l := by
  refine h.kept (ba_set w b o v) ?_
  cases hx : x.ownBlock with
  | none => exact .inl rfl
  | some k => exact .inr fun e => hb k hx (by injection e)
theorem own_far4 {α : Type} {S : Shape α} {w : World} {B : Nat} {e : TypeId} {x : Value} {l : List α} {b : Nat} (h : SlOwn S w B e x l) (hb : ∀ k, x.ownBlock = some k → k ≠ b) (v1 v2 v3 v4 : Value) :
    SlOwn S ((((w.setCell ⟨b, 0, none⟩ v1).setCell ⟨b, 1, none⟩ v2).setCell ⟨b, 2, none⟩ v3).setCell ⟨b, 3, none⟩ v4) B e x l :=
  own_far (own_far (own_far (own_far h hb _ _) hb _ _) hb _ _) hb _ _

/-- the couples behind each clack -/
def clL (a b : Int) : List St := if bmB a b then cpL a b (bxK a b) else []

set_option maxRecDepth 100000 in
set_option maxHeartbeats 4000000 in
theorem clacksOf_t (a b : Int) (w : World) (ha : maB a = true) (hb : maB b = true) :
    Calls Try.prog 80 #[.int .i64 a, .int .i64 b] w fun e w' => ∃ A1 n1 c1, e = .returned (.tuple #[.slice A1 n1 c1, .bool true]) ∧ n1 = bxK a b ∧ SlOwn coupS w' w.heap.size 71 (.slice A1 n1 c1) (cpL a b (bxK a b)) ∧ Below w.heap.size w w' := by
  obtain ⟨q1, q2, q3, q4, q5, q6⟩ := bx_facts ha hb
  obtain ⟨r1, r2, r3, r4⟩ := bx_factsP ha hb
  obtain ⟨i0, hi, hz0, hz1, hz2⟩ := info_parts couInfo
  have H1 := Lib.hid (isMass_at a true ha)
  have H2 := Lib.hid (isMass_at b true hb)
  rw [maB_iff] at ha hb
  obtain ⟨M, hM⟩ : ∃ M : Nat → St, ∀ k, M k = bhN a b (bxN a b k) := ⟨_, fun _ => rfl⟩
  have HBN : Hid (∀ k, k ≤ bxK a b → ∀ w, Calls Try.prog 100 #[.int .i64 a, .int .i64 b, .agg #[.int .i64 (bxN a b k).1.1, .int .i64 (bxN a b k).1.2, .int .i64 (bxN a b k).2.1, .int .i64 (bxN a b k).2.2]] w fun e w' =>
      e = .returned (.agg #[.int .i64 (M k).1.1, .int .i64 (M k).1.2, .int .i64 (M k).2.1, .int .i64 (M k).2.2]) ∧ Below w.heap.size w w') := fun k hk w => by
    rw [hM]
    exact behindNext_any a b (bxN a b k) w ha hb (q3 k hk).1 (q3 k hk).2 (r4 k hk)
  have HM1 : Hid (∀ k, k < bxK a b → M k = bxN a b (k + 1) ∧ bxN a b (k + 1) ≠ bxN a b k) := fun k hk => by rw [hM]; exact r1 k hk
  have HMK : Hid (M (bxK a b) = bxN a b (bxK a b)) := by show _ = _; rw [hM]; exact r2
  have HLS : Hid (∀ k, cpL a b (k + 1) = cpL a b k ++ [bxN a b (k + 1)]) := cpL_succ a b
  have HLL : Hid (∀ k, (cpL a b k).length = k) := cpL_len a b
  have H0 : Hid (bxN a b 0 = ((0, 1), (-1, 1))) := rfl
  have HL0 : Hid (cpL a b 0 = []) := rfl
  clear q1 q2 q3 q4 q5 r1 r2 r3 r4 hM ha hb
  generalize bxK a b = K at *
  generalize bxN a b = N at *
  generalize cpL a b = L at *
  go_enter Try.func80, Try.ntmps80
  go_wp2_with fail
  refine (H1.out _).mono ?_
  rintro e w0 ⟨rfl, rfl⟩
  go_wp2_with fail
  refine (H2.out _).mono ?_
  rintro e w0 ⟨rfl, rfl⟩
  go_wp2_with fail
  refine (whole_any 0 _).mono ?_
  rintro e w1 ⟨rfl, hb1⟩
  go_wp2_with fail
  refine (whole_any (-1) _).mono ?_
  rintro e w2 ⟨rfl, hb2⟩
  have HB2 := Lib.hid (hb1.trans (hb2.mono hb1.size))
  clear hb1 hb2
  have HN := Lib.hid (CP.start w2 0 1 (-1) 1 71)
  have HB3 := Lib.hid (HB2.out.alloc HB2.out.size (Obj.cells #[Value.int IntKind.i64 0, Value.int IntKind.i64 1, Value.int IntKind.i64 (-1), Value.int IntKind.i64 1] 71))
  have HB0 := HBN.out 0 (Nat.zero_le _)
  rw [H0.out] at HB0
  obtain ⟨⟨⟨m1, m2⟩, ⟨m3, m4⟩⟩, hm⟩ : ∃ x, M 0 = x := ⟨_, rfl⟩
  rw [hm] at HB0
  have HB0' := Lib.hid HB0
  simp only at HB0'
  clear HB0
  have HGw := HB2.out.size
  go_wp2_with fail
  refine (HB0'.out _).mono ?_
  rintro e w3 ⟨rfl, hb3⟩
  have HN3 := Lib.hid (HN.out.below hb3)
  have HB4 := Lib.hid (HB3.out.trans (hb3.mono HB3.out.size))
  have HG3 : w2.heap.size < w3.heap.size := HN3.out.lt
  clear hb3 HN HB3 HB2
  have HX := Lib.hid (CP.start w3 m1 m2 m3 m4 71)
  have HNX := Lib.hid (HN3.out.grow (Obj.cells #[Value.int IntKind.i64 m1, Value.int IntKind.i64 m2, Value.int IntKind.i64 m3, Value.int IntKind.i64 m4] 71))
  have HBX := Lib.hid (HB4.out.alloc HB4.out.size (Obj.cells #[Value.int IntKind.i64 m1, Value.int IntKind.i64 m2, Value.int IntKind.i64 m3, Value.int IntKind.i64 m4] 71))
  have HM0 := Lib.hid hm
  clear hm HN3 HB4 HB0'
  go_wp2
  go_loopw [6, 8] (fun ls px wr => ∃ (k : Nat) (A : Option Addr) (n c g : Nat), k ≤ K ∧ ls = .slice A n c ∧ px = .pointer (some ⟨g, 0, none⟩) ∧ w2.heap.size < g ∧ Below w.heap.size w wr ∧ CP w2.heap.size (N k) wr ∧ CP g (M k) wr ∧ SlOwn coupS wr (w2.heap.size + 1) 71 (.slice A n c) (L k) ∧ (∀ x, (Value.slice A n c).ownBlock = some x → x ≠ g))
    (fun ls _ _ => K - (match ls with | .slice _ n _ => n | _ => 0))
  case atStart =>
    refine ⟨0, none, 0, 0, w3.heap.size, Nat.zero_le _, rfl, rfl, HG3, HBX.out, ?_, ?_, by rw [HL0.out]; exact SlOwn.nil _ _ _ _, fun x h => by cases h⟩
    · rw [H0.out]; exact HNX.out
    · rw [HM0.out]; exact HX.out
  case round =>
    obtain ⟨k, A, n, c, g, hk, rfl, rfl, hg, hbr, P1, P2, ho, hd⟩ := hrel
    have HBr := Lib.hid hbr
    have HP1 := Lib.hid P1
    have HP2 := Lib.hid P2
    have HO := Lib.hid ho
    have HD := Lib.hid hd
    have HLk := Lib.hid (HLL.out k)
    have HLSk := Lib.hid (HLS.out k)
    clear hbr P1 P2 ho hd
    obtain ⟨⟨⟨u1, u2⟩, ⟨v1, v2⟩⟩, hx⟩ : ∃ x, N k = x := ⟨_, rfl⟩
    obtain ⟨⟨⟨x1, x2⟩, ⟨y1, y2⟩⟩, hy⟩ : ∃ x, M k = x := ⟨_, rfl⟩
    rw [hx] at HP1
    rw [hy] at HP2
    obtain ⟨s1, c0, c1, c2, c3⟩ := HP1.out.parts
    obtain ⟨cf0, cf1, cf2, cf3⟩ := HP1.out.frees
    obtain ⟨s2, d0, d1, d2, d3⟩ := HP2.out.parts
    simp only at c0 c1 c2 c3 d0 d1 d2 d3
    have hgd : ∀ a b : Operand, (eqGuard .neq 71 a b (.agg #[.int .i64 x1, .int .i64 x2, .int .i64 y1, .int .i64 y2]) (.agg #[.int .i64 u1, .int .i64 u2, .int .i64 v1, .int .i64 v2])).run Try.prog wr = .ok () wr := fun a b => run_eqGuard_agg wr .neq 71 a b _ _ cpGuard
    have heq := eq_couple x1 x2 y1 y2 u1 u2 v1 v2 wr
    by_cases hlt : k < K
    · obtain ⟨e1, e2⟩ := HM1.out k hlt
      rw [hy] at e1
      rw [hx, ← e1] at e2
      rw [decide_eq_false e2] at heq
      obtain ⟨⟨⟨z1, z2⟩, ⟨z3, z4⟩⟩, hz⟩ : ∃ x, M (k + 1) = x := ⟨_, rfl⟩
      have hbn := HBN.out (k + 1) (by omega)
      rw [← e1, hz] at hbn
      have HBk := Lib.hid hbn
      have HE1 := Lib.hid e1
      have HZ := Lib.hid hz
      simp only at HBk
      clear e1 e2 hbn hz hx hy
      have HNL := Lib.hid (own_low HO.out (Nat.lt_succ_self _))
      have HNG := Lib.hid (own_ne HD.out)
      go_wp2_with (at_builtin; go_must (refine wpList_append_slsw coupS _ rfl _ _ 80 rfl (w2.heap.size + 1) 71 i0 _ 32 Try.underlying80 hi hz0 hz1 hz2 rfl (by decide) (.slice A n c) (L k) rfl (own_alloc HO.out _) _ 1 1 [((x1, x2), (y1, y2))] rfl rfl (slAt_cp (heap_new (by simp))) (by have := HLk.out; simp only [List.length_cons, List.length_nil]; omega) (by simp; omega) ?_; intro A5 n5 c5 w5 ho5 hg5 hk5; have hs5 : wr.heap.size + 1 ≤ w5.heap.size := (by have := hg5.size; simpa using this); have HP1a := Lib.hid ((HP1.out.grow (Obj.cells #[Value.int .i64 x1, Value.int .i64 x2, Value.int .i64 y1, Value.int .i64 y2] 71)).kept hg5 HNL.out); have HP2a := Lib.hid ((HP2.out.grow (Obj.cells #[Value.int .i64 x1, Value.int .i64 x2, Value.int .i64 y1, Value.int .i64 y2] 71)).kept hg5 HNG.out); have HBa := Lib.hid ((HBr.out.alloc HBr.out.size (Obj.cells #[Value.int .i64 x1, Value.int .i64 x2, Value.int .i64 y1, Value.int .i64 y2] 71)).trans ((ba_grown (own_alloc HO.out _) hg5 (by simp; omega)).mono (by omega))); have HDa := Lib.hid (own_apart HD.out hk5 (by simp; omega)); have HOa := Lib.hid ho5; obtain ⟨s1, c0, c1, c2, c3⟩ := HP1a.out.parts; obtain ⟨cf0, cf1, cf2, cf3⟩ := HP1a.out.frees; obtain ⟨s2, d0, d1, d2, d3⟩ := HP2a.out.parts; simp only at c0 c1 c2 c3 d0 d1 d2 d3; clear ho5 hg5 hk5))
      refine (HBk.out _).mono ?_
      rintro e w6 ⟨rfl, hb6⟩
      have HG5 : w2.heap.size < w5.heap.size := HP1a.out.lt
      have HW8 := Lib.hid (size_set4 w5 w2.heap.size (.int .i64 x1) (.int .i64 x2) (.int .i64 y1) (.int .i64 y2))
      have HQ1 := Lib.hid (((HP1a.out.set x1 x2 y1 y2).grow _).below hb6)
      have HQ2 := Lib.hid ((CP.startS _ _ HW8.out x1 x2 y1 y2 _).below hb6)
      have HOb := Lib.hid ((own_alloc (own_far4 HOa.out (b := w2.heap.size) (fun x hx => by have := (World.ownsRow.lt HOa.out x hx).1; omega) _ _ _ _) _).below hb6)
      have HBb := Lib.hid (((below_cp HBa.out _ _ _ _ HGw).alloc (by rw [HW8.out]; exact HBa.out.size) _).trans (hb6.mono (by have := HBa.out.size; simp; omega)))
      have HDb : Hid (∀ x, (Value.slice A5 n5 c5).ownBlock = some x → x ≠ w5.heap.size) := fun x hx => by have := (World.ownsRow.lt HOa.out x hx).2; omega
      clear hb6
      obtain ⟨t1, a0, a1, a2, a3⟩ := HQ2.out.parts
      obtain ⟨af0, af1, af2, af3⟩ := HQ2.out.frees
      simp only at a0 a1 a2 a3
      go_wp2
      go_roundw
      case rel =>
        refine ⟨k + 1, A5, n5, c5, w5.heap.size, by omega, rfl, rfl, HG5, below_cp HBb.out _ _ _ _ (by have := HBa.out.size; omega), ?_, ?_, ?_, HDb.out⟩
        · rw [← HE1.out]; exact HQ1.out.far4 (by omega) _ _ _ _
        · rw [HZ.out]; exact HQ2.out.set _ _ _ _
        · rw [HLSk.out, ← HE1.out]; exact own_far4 HOb.out HDb.out _ _ _ _
      case measure =>
        have e1 := ba_len HO.out
        have e2 := ba_len HOa.out
        rw [List.length_append, HLk.out] at e2
        rw [HLk.out] at e1
        simp only [List.length_cons, List.length_nil] at e2
        show K - n5 < K - n
        omega
    · obtain rfl : k = K := by omega
      have e1 := HMK.out
      rw [hx, hy] at e1
      rw [decide_eq_true e1] at heq
      clear e1 hx hy
      go_wp2
      exact bodyPost_ret (v := .tuple #[.slice A n c, .bool true]) (by simp [results, Try.results80, go_sem]) rfl ⟨A, n, c, rfl, by rw [ba_len HO.out, HLk.out], HO.out.base (by omega), HBr.out⟩
end Go.Proofs.Ytikmkmpekjijpaa
