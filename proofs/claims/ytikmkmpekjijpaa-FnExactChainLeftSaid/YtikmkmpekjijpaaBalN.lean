/- Balls on the model's side, twelfth part: the chain's loop (baChain). Its drawn region leaves six goals: the call stands ahead of, between or behind the two allocs, in either order. -/
import Derived.Test.YtikmkmpekjijpaaBalM
namespace Go.Proofs.Ytikmkmpekjijpaa
open Go.RowKit

/-- what stands behind the chain's drawn region -/
structure ChAt (w W : World) (R : Nat) (u z y : Int × Int) (v : Value) (l : List (Int × Int)) (g1 g2 : Nat) : Prop where
  bel : Below w.heap.size w W
  now : PC w.heap.size u W
  rest : PC (w.heap.size + 1) (0, 1) W
  own : SlOwn pairS W (w.heap.size + 1 + 1) 25 v l
  left : PC g1 z W
  next : PC g2 y W
  far : ∀ x, v.ownBlock = some x → x < R
  r1 : R ≤ g1
  r2 : R ≤ g2
theorem own_setFar {α : Type} {S : Shape α} {w : World} {B R : Nat} {e : TypeId} {x : Value} {l : List α} {b : Nat} (h : SlOwn S w B e x l) (hf : ∀ k, x.ownBlock = some k → k < R) (hb : R ≤ b) (o : Nat) (v : Value) : SlOwn S (w.setCell ⟨b, o, none⟩ v) B e x l := by
  refine h.kept (ba_set w b o v) ?_
  cases hx : x.ownBlock with
  | none => exact .inl rfl
  | some k =>
    have := hf k hx
    exact .inr fun e => by injection e with e; omega
/-- two cells of a far block are set -/
theorem ChAt.set2 {w W : World} {R : Nat} {u : Int × Int} {v : Value} {l : List (Int × Int)} {b : Nat}
    (hb : Below w.heap.size w W ∧ PC w.heap.size u W ∧ PC (w.heap.size + 1) (0, 1) W ∧ SlOwn pairS W (w.heap.size + 1 + 1) 25 v l) (hf : ∀ k, v.ownBlock = some k → k < R) (hR : R ≤ b) (hw : w.heap.size + 1 < R) (x y : Value) :
    Below w.heap.size w ((W.setCell ⟨b, 0, none⟩ x).setCell ⟨b, 1, none⟩ y) ∧ PC w.heap.size u ((W.setCell ⟨b, 0, none⟩ x).setCell ⟨b, 1, none⟩ y) ∧ PC (w.heap.size + 1) (0, 1) ((W.setCell ⟨b, 0, none⟩ x).setCell ⟨b, 1, none⟩ y) ∧ SlOwn pairS ((W.setCell ⟨b, 0, none⟩ x).setCell ⟨b, 1, none⟩ y) (w.heap.size + 1 + 1) 25 v l :=
  ⟨below_set2 hb.1 _ _ (by omega), (hb.2.1.far (by omega) _ _).far (by omega) _ _, (hb.2.2.1.far (by omega) _ _).far (by omega) _ _, own_setFar (own_setFar hb.2.2.2 hf hR _ _) hf hR _ _⟩
theorem ChAt.al {w W : World} {u : Int × Int} {v : Value} {l : List (Int × Int)}
    (hb : Below w.heap.size w W ∧ PC w.heap.size u W ∧ PC (w.heap.size + 1) (0, 1) W ∧ SlOwn pairS W (w.heap.size + 1 + 1) 25 v l) (o : Obj) :
    Below w.heap.size w (W.alloc o) ∧ PC w.heap.size u (W.alloc o) ∧ PC (w.heap.size + 1) (0, 1) (W.alloc o) ∧ SlOwn pairS (W.alloc o) (w.heap.size + 1 + 1) 25 v l :=
  ⟨hb.1.alloc hb.1.size _, hb.2.1.grow _, hb.2.2.1.grow _, own_alloc hb.2.2.2 _⟩
theorem ChAt.bw {w W W2 : World} {u : Int × Int} {v : Value} {l : List (Int × Int)}
    (hb : Below w.heap.size w W ∧ PC w.heap.size u W ∧ PC (w.heap.size + 1) (0, 1) W ∧ SlOwn pairS W (w.heap.size + 1 + 1) 25 v l) (h : Below W.heap.size W W2) :
    Below w.heap.size w W2 ∧ PC w.heap.size u W2 ∧ PC (w.heap.size + 1) (0, 1) W2 ∧ SlOwn pairS W2 (w.heap.size + 1 + 1) 25 v l :=
  ⟨hb.1.trans (h.mono hb.1.size), hb.2.1.below h, hb.2.2.1.below h, hb.2.2.2.below h⟩

set_option maxRecDepth 100000 in
set_option maxHeartbeats 8000000 in
theorem bChain_any (A : Option Addr) (c : Nat) (l : List Int) (w : World) (hA : SlAt intS w A l) (hc : chB l = true) :
    Calls Try.prog 82 #[.slice A l.length c] w fun e w' => ∃ A1 n1 c1, e = .returned (.slice A1 n1 c1) ∧ n1 = l.length ∧ SlOwn pairS w' w.heap.size 25 (.slice A1 n1 c1) (chL l) ∧ Below w.heap.size w w' := by
  have HA := Lib.hid hA
  have h0 := (chB_iff l).1 hc
  have hlen := h0.1
  have HK : Hid (∀ k, k + 1 < l.length → ∀ w, Calls Try.prog 67 #[.int .i64 (l.getD k 0), .agg #[.int .i64 (chNow l k).1, .int .i64 (chNow l k).2], .int .i64 (l.getD (k + 1) 0), .agg #[.int .i64 0, .int .i64 1]] w fun e w' =>
      e = .returned (.tuple #[.agg #[.int .i64 (clV (l.getD k 0) (chNow l k) (l.getD (k + 1) 0) (0, 1)).1.1, .int .i64 (clV (l.getD k 0) (chNow l k) (l.getD (k + 1) 0) (0, 1)).1.2], .agg #[.int .i64 (chNow l (k + 1)).1, .int .i64 (chNow l (k + 1)).2], .bool true]) ∧ Below w.heap.size w w') := fun k hk w => by
    have h1 := chain_ok h0.2 hlen.2 (k + 1) hk
    have h3 := chain_ok h0.2 hlen.2 k (by omega)
    have hat : ∀ j, j < l.length → 1 ≤ l.getD j 0 ∧ l.getD j 0 ≤ 9 := fun j hj => by
      rw [List.getD_eq_getElem?_getD, List.getElem?_eq_getElem hj]; exact h0.2 _ (List.getElem_mem hj)
    have hp : pw18 k ≤ 1000000 := by
      match k, (by omega : k ≤ 3) with
      | 0, _ => decide
      | 1, _ => decide
      | 2, _ => decide
      | 3, _ => decide
    have hsm : smP (chNow l k) := ⟨⟨by omega, by omega⟩, by omega, by omega⟩
    have := bClack_any (l.getD k 0) (l.getD (k + 1) 0) (chNow l k) (0, 1) w (hat k (by omega)) (hat (k + 1) hk) hsm ⟨⟨by decide, by decide⟩, by decide, by decide⟩
    rw [h1.2 k (by omega)] at this
    exact this
  clear hA hc h0
  have HS := Lib.hid (chOut_succ l)
  have HL := Lib.hid (chOut_len l)
  have HO0 : Hid (chOut l 0 = []) := rfl
  have HN0 : Hid (chNow l 0 = (1, 1)) := rfl
  have HR : Hid (chL l = chOut l (l.length - 1) ++ [chNow l (l.length - 1)]) := rfl
  generalize chOut l = O at *
  generalize hN : chNow l = N at *
  generalize chL l = R at *
  obtain ⟨i0, hi, hz0, hz1, hz2⟩ := info_parts paceInfo
  go_enter Try.func82, Try.ntmps82
  go_wp2
  go_loopw [5, 6] (fun o i wr => ∃ (k : Nat) (A5 : Option Addr) (n5 c5 : Nat), k < l.length ∧ o = .slice A5 n5 c5 ∧ i = .int .i64 ((k : Int) + 1) ∧ Below w.heap.size w wr ∧ PC w.heap.size (N k) wr ∧ PC (w.heap.size + 1) (0, 1) wr ∧ SlOwn pairS wr (w.heap.size + 1 + 1) 25 (.slice A5 n5 c5) (O k))
    (fun _ i _ => l.length + 1 - (intOf i).toNat)
  case atStart =>
    refine ⟨0, none, 0, 0, by omega, rfl, by simp, Below.two w _ _, ?_, PC.at1 w _ 0 1 25, by rw [HO0.out]; exact SlOwn.nil _ _ _ _⟩
    rw [HN0.out]; exact (PC.start w 1 1 25).grow _
  case round =>
    obtain ⟨k, A5, n5, c5, hk, rfl, rfl, hb, P1, P2, ho⟩ := hrel
    have HB := Lib.hid hb
    have HP1 := Lib.hid P1
    have HP2 := Lib.hid P2
    have HO := Lib.hid ho
    have hA := HA.out.below (hb.mono (Nat.le_refl _))
    have HLk := Lib.hid (HL.out k)
    have HSk := Lib.hid (HS.out k)
    have HKk := Lib.hid (HK.out k)
    clear hb ho HL HS HK
    by_cases hlt : k + 1 < l.length
    · have q1 : (k : Int) + 1 < (l.length : Int) := by omega
      obtain ⟨ba, off, rfl, l0, hcell⟩ := hA.int_at hk
      have x0 := hcell k _ (List.getElem?_eq_getElem hk)
      have x1 := hcell (k + 1) _ (List.getElem?_eq_getElem hlt)
      rw [List.getD_eq_getElem?_getD, List.getElem?_eq_getElem hk, List.getD_eq_getElem?_getD, List.getElem?_eq_getElem hlt] at HKk HSk
      simp only [Option.getD_some] at HKk HSk
      generalize l[k] = m at *
      generalize l[k + 1] = n at *
      obtain ⟨⟨u1, u2⟩, hx⟩ : ∃ x, N k = x := ⟨_, rfl⟩
      obtain ⟨⟨y1, y2⟩, hy⟩ : ∃ x, N (k + 1) = x := ⟨_, rfl⟩
      rw [hx] at HKk HSk HP1 P1
      rw [hy] at HKk
      obtain ⟨⟨z1, z2⟩, hz⟩ : ∃ x, (clV m (u1, u2) n (0, 1)).1 = x := ⟨_, rfl⟩
      rw [hz] at HKk HSk
      have HY := Lib.hid hy
      clear hx hy hz hA hcell
      simp only at HKk HSk
      have HC := Lib.hid (HKk.out hlt)
      obtain ⟨s1, c0, c1, f0, f1⟩ := P1.parts
      obtain ⟨s2, d0, d1, g0, g1⟩ := P2.parts
      clear P1 P2 HKk
      have kw : IntKind.i64.wrap (k : Int) = (k : Int) := IntWalk.i64_in _ (by have := HLk.out; omega)
      have kw1 : IntKind.i64.wrap ((k : Int) + 1) = (k : Int) + 1 := IntWalk.i64_in _ (by omega)
      have kl : (k : Int) < (l.length : Int) := by omega
      have kz : (0 : Int) ≤ (k : Int) := by omega
      have kz1 : (0 : Int) ≤ (k : Int) + 1 := by omega
      have kt : ((k : Int) + 1).toNat = k + 1 := by omega
      go_wp2
      have HQ := Lib.hid (⟨HB.out, HP1.out, HP2.out, HO.out⟩ : Below w.heap.size w wr ∧ PC w.heap.size (u1, u2) wr ∧ PC (w.heap.size + 1) (0, 1) wr ∧ SlOwn pairS wr (w.heap.size + 1 + 1) 25 (.slice A5 n5 c5) (O k))
      have HFAR := Lib.hid (fun x (hx : (Value.slice A5 n5 c5).ownBlock = some x) => (World.ownsRow.lt HO.out x hx).2)
      have a1 : ¬ wr.heap.size = w.heap.size := by omega
      have a2 : ¬ wr.heap.size = w.heap.size + 1 := by omega
      have a3 : ¬ wr.heap.size = ba := by omega
      have a4 : ¬ wr.heap.size + 1 = w.heap.size := by omega
      have a5 : ¬ wr.heap.size + 1 = w.heap.size + 1 := by omega
      have a6 : ¬ wr.heap.size + 1 = ba := by omega
      go_region_held3 (fun w' => w'.cell? ⟨w.heap.size, 0, none⟩ = some (.int .i64 u1) ∧ w'.cell? ⟨w.heap.size, 1, none⟩ = some (.int .i64 u2) ∧ w'.cell? ⟨w.heap.size + 1, 0, none⟩ = some (.int .i64 0) ∧ w'.cell? ⟨w.heap.size + 1, 1, none⟩ = some (.int .i64 1) ∧ w'.cell? ⟨ba, off + k, none⟩ = some (.int .i64 m) ∧ w'.cell? ⟨ba, off + (k + 1), none⟩ = some (.int .i64 n))
        (first
          | go_keep
          | exact ⟨C0, C1, D0, D1, X0, X1⟩
          | (refine ⟨?_, ?_, ?_, ?_, ?_, ?_⟩ <;> (simp [go_sem, C0, C1, D0, D1, X0, X1, b1, b2, b3, b4, b5, b6]; done))
          | (refine ⟨?_, ?_, ?_, ?_, ?_, ?_⟩ <;> (simp [go_sem, c0, c1, d0, d1, x0, x1, a1, a2, a3, a4, a5, a6]; done)))
        (first | (go_at_call 67; (with_reducible refine (HC.out _).mono ?_); rintro e w3 ⟨rfl, hb3⟩; have hb4 := below_drew hb3; have C0 : w3.cell? ⟨w.heap.size, 0, none⟩ = some (.int .i64 u1) := (by first | exact Below.cell_some hb4 c0 | exact Below.cell_some hb4 (alloc_some c0 _) | exact Below.cell_some hb4 (alloc_some (alloc_some c0 _) _)); have C1 : w3.cell? ⟨w.heap.size, 1, none⟩ = some (.int .i64 u2) := (by first | exact Below.cell_some hb4 c1 | exact Below.cell_some hb4 (alloc_some c1 _) | exact Below.cell_some hb4 (alloc_some (alloc_some c1 _) _)); have D0 : w3.cell? ⟨w.heap.size + 1, 0, none⟩ = some (.int .i64 0) := (by first | exact Below.cell_some hb4 d0 | exact Below.cell_some hb4 (alloc_some d0 _) | exact Below.cell_some hb4 (alloc_some (alloc_some d0 _) _)); have D1 : w3.cell? ⟨w.heap.size + 1, 1, none⟩ = some (.int .i64 1) := (by first | exact Below.cell_some hb4 d1 | exact Below.cell_some hb4 (alloc_some d1 _) | exact Below.cell_some hb4 (alloc_some (alloc_some d1 _) _)); have X0 : w3.cell? ⟨ba, off + k, none⟩ = some (.int .i64 m) := (by first | exact Below.cell_some hb4 x0 | exact Below.cell_some hb4 (alloc_some x0 _) | exact Below.cell_some hb4 (alloc_some (alloc_some x0 _) _)); have X1 : w3.cell? ⟨ba, off + (k + 1), none⟩ = some (.int .i64 n) := (by first | exact Below.cell_some hb4 x1 | exact Below.cell_some hb4 (alloc_some x1 _) | exact Below.cell_some hb4 (alloc_some (alloc_some x1 _) _)); have HQ3 := Lib.hid (show Below w.heap.size w w3 ∧ PC w.heap.size (u1, u2) w3 ∧ PC (w.heap.size + 1) (0, 1) w3 ∧ SlOwn pairS w3 (w.heap.size + 1 + 1) 25 (.slice A5 n5 c5) (O k) from (by first | exact ChAt.bw HQ.out hb4 | exact ChAt.bw (ChAt.al HQ.out _) hb4 | exact ChAt.bw (ChAt.al (ChAt.al HQ.out _) _) hb4)); have s9 : wr.heap.size ≤ w3.heap.size := (by have h := hb4.size; (try simp at h); omega); have b1 : ¬ w3.heap.size = w.heap.size := (by omega); have b2 : ¬ w3.heap.size = w.heap.size + 1 := (by omega); have b3 : ¬ w3.heap.size = ba := (by omega); have b4 : ¬ w3.heap.size + 1 = w.heap.size := (by omega); have b5 : ¬ w3.heap.size + 1 = w.heap.size + 1 := (by omega); have b6 : ¬ w3.heap.size + 1 = ba := (by omega); (first | (have P7 := ((PC.start wr 0 0 25).grow _).below hb4; have P8 := (PC.at1 wr _ 0 0 25).below hb4; obtain ⟨s7, p0, p1, pf0, pf1⟩ := P7.parts; obtain ⟨s8, r0, r1, rf0, rf1⟩ := P8.parts) | (have P7 := (PC.start wr 0 0 25).below hb4; obtain ⟨s7, p0, p1, pf0, pf1⟩ := P7.parts) | skip)))
      · obtain ⟨W, hW⟩ : ∃ W, W = (w3.alloc (Obj.cells #[Value.int .i64 z1, Value.int .i64 z2] 25)).alloc (Obj.cells #[Value.int .i64 y1, Value.int .i64 y2] 25) := ⟨_, rfl⟩
        rw [← hW]
        have HCA : Hid (ChAt w W wr.heap.size (u1, u2) (z1, z2) (y1, y2) (.slice A5 n5 c5) (O k) (w3.heap.size) (w3.heap.size + 1)) := by
          show ChAt _ _ _ _ _ _ _ _ _ _
          rw [hW]
          have q := ChAt.al (ChAt.al HQ3.out (Obj.cells #[Value.int .i64 z1, Value.int .i64 z2] 25)) (Obj.cells #[Value.int .i64 y1, Value.int .i64 y2] 25)
          exact ⟨q.1, q.2.1, q.2.2.1, q.2.2.2, ((PC.start w3 z1 z2 25).grow _), (PC.at1 w3 _ y1 y2 25), HFAR.out, by omega, by omega⟩
        have q := HCA.out
        have e0 := q.left.c0
        have e1 := q.left.c1
        have h0 := q.now.c0
        have h1 := q.now.c1
        have hf0 := q.now.f0
        have hf1 := q.now.f1
        have t2 := q.rest.lt
        simp only at e0 e1 h0 h1
        clear q hW
        go_wp2_with (at_builtin; go_must (refine wpList_append_slsw pairS _ rfl _ _ 37 rfl (w.heap.size + 1 + 1) 25 i0 _ 16 Try.underlying37 hi hz0 hz1 hz2 rfl (by decide) (.slice A5 n5 c5) (O k) rfl (own_alloc HCA.out.own _) _ 1 1 [(z1, z2)] rfl rfl (slAt_one (heap_new (by simp))) (by have := HLk.out; simp only [List.length_cons, List.length_nil]; omega) (by simp; omega) ?_); intro A7 n7 k7 w7 ho7 hg7 hk7; have HB7 := Lib.hid (ba_grown (own_alloc HCA.out.own _) hg7 (by simp; omega)); have m0 := hg7.cell (alloc_some HCA.out.next.c0 (Obj.cells #[Value.int .i64 z1, Value.int .i64 z2] 25)) (fun e => by have h2 := HCA.out.far _ e.symm; have h3 := HCA.out.r2; simp only at h2; omega); have m1 := hg7.cell (alloc_some HCA.out.next.c1 (Obj.cells #[Value.int .i64 z1, Value.int .i64 z2] 25)) (fun e => by have h2 := HCA.out.far _ e.symm; have h3 := HCA.out.r2; simp only at h2; omega); have HP7 := Lib.hid ((HCA.out.now.grow (Obj.cells #[Value.int .i64 z1, Value.int .i64 z2] 25)).keep HB7.out (by omega)); have HR7 := Lib.hid ((HCA.out.rest.grow (Obj.cells #[Value.int .i64 z1, Value.int .i64 z2] 25)).keep HB7.out (by omega)); have HBW7 := Lib.hid ((HCA.out.bel.alloc HCA.out.bel.size (Obj.cells #[Value.int .i64 z1, Value.int .i64 z2] 25)).trans (HB7.out.mono (by omega))); have HO7 := Lib.hid ho7; have j0 := HP7.out.c0; have j1 := HP7.out.c1; have jf0 := HP7.out.f0; have jf1 := HP7.out.f1; have jl := HP7.out.lt; simp only at m0 m1 j0 j1; clear ho7 hg7 hk7)
        go_roundw
        case rel =>
          refine ⟨k + 1, A7, n7, k7, hlt, rfl, by congr 1, below_set2 HBW7.out _ _ (Nat.le_refl _), ?_, (HR7.out.far (by omega) _ _).far (by omega) _ _, ?_⟩
          · rw [HY.out]; exact HP7.out.set y1 y2
          · rw [HSk.out]; exact own_set1 (own_set1 HO7.out (by omega) _ _) (by omega) _ _
        case measure => simp [intOf]; omega
      · obtain ⟨W, hW⟩ : ∃ W, W = (w3.alloc (Obj.cells #[Value.int .i64 y1, Value.int .i64 y2] 25)).alloc (Obj.cells #[Value.int .i64 z1, Value.int .i64 z2] 25) := ⟨_, rfl⟩
        rw [← hW]
        have HCA : Hid (ChAt w W wr.heap.size (u1, u2) (z1, z2) (y1, y2) (.slice A5 n5 c5) (O k) (w3.heap.size + 1) (w3.heap.size)) := by
          show ChAt _ _ _ _ _ _ _ _ _ _
          rw [hW]
          have q := ChAt.al (ChAt.al HQ3.out (Obj.cells #[Value.int .i64 y1, Value.int .i64 y2] 25)) (Obj.cells #[Value.int .i64 z1, Value.int .i64 z2] 25)
          exact ⟨q.1, q.2.1, q.2.2.1, q.2.2.2, (PC.at1 w3 _ z1 z2 25), ((PC.start w3 y1 y2 25).grow _), HFAR.out, by omega, by omega⟩
        have q := HCA.out
        have e0 := q.left.c0
        have e1 := q.left.c1
        have h0 := q.now.c0
        have h1 := q.now.c1
        have hf0 := q.now.f0
        have hf1 := q.now.f1
        have t2 := q.rest.lt
        simp only at e0 e1 h0 h1
        clear q hW
        go_wp2_with (at_builtin; go_must (refine wpList_append_slsw pairS _ rfl _ _ 37 rfl (w.heap.size + 1 + 1) 25 i0 _ 16 Try.underlying37 hi hz0 hz1 hz2 rfl (by decide) (.slice A5 n5 c5) (O k) rfl (own_alloc HCA.out.own _) _ 1 1 [(z1, z2)] rfl rfl (slAt_one (heap_new (by simp))) (by have := HLk.out; simp only [List.length_cons, List.length_nil]; omega) (by simp; omega) ?_); intro A7 n7 k7 w7 ho7 hg7 hk7; have HB7 := Lib.hid (ba_grown (own_alloc HCA.out.own _) hg7 (by simp; omega)); have m0 := hg7.cell (alloc_some HCA.out.next.c0 (Obj.cells #[Value.int .i64 z1, Value.int .i64 z2] 25)) (fun e => by have h2 := HCA.out.far _ e.symm; have h3 := HCA.out.r2; simp only at h2; omega); have m1 := hg7.cell (alloc_some HCA.out.next.c1 (Obj.cells #[Value.int .i64 z1, Value.int .i64 z2] 25)) (fun e => by have h2 := HCA.out.far _ e.symm; have h3 := HCA.out.r2; simp only at h2; omega); have HP7 := Lib.hid ((HCA.out.now.grow (Obj.cells #[Value.int .i64 z1, Value.int .i64 z2] 25)).keep HB7.out (by omega)); have HR7 := Lib.hid ((HCA.out.rest.grow (Obj.cells #[Value.int .i64 z1, Value.int .i64 z2] 25)).keep HB7.out (by omega)); have HBW7 := Lib.hid ((HCA.out.bel.alloc HCA.out.bel.size (Obj.cells #[Value.int .i64 z1, Value.int .i64 z2] 25)).trans (HB7.out.mono (by omega))); have HO7 := Lib.hid ho7; have j0 := HP7.out.c0; have j1 := HP7.out.c1; have jf0 := HP7.out.f0; have jf1 := HP7.out.f1; have jl := HP7.out.lt; simp only at m0 m1 j0 j1; clear ho7 hg7 hk7)
        go_roundw
        case rel =>
          refine ⟨k + 1, A7, n7, k7, hlt, rfl, by congr 1, below_set2 HBW7.out _ _ (Nat.le_refl _), ?_, (HR7.out.far (by omega) _ _).far (by omega) _ _, ?_⟩
          · rw [HY.out]; exact HP7.out.set y1 y2
          · rw [HSk.out]; exact own_set1 (own_set1 HO7.out (by omega) _ _) (by omega) _ _
        case measure => simp [intOf]; omega
      · obtain ⟨W, hW⟩ : ∃ W, W = ((w3.setCell ⟨wr.heap.size, 0, none⟩ (.int .i64 z1)).setCell ⟨wr.heap.size, 1, none⟩ (.int .i64 z2)).alloc (Obj.cells #[Value.int .i64 y1, Value.int .i64 y2] 25) := ⟨_, rfl⟩
        rw [← hW]
        have HCA : Hid (ChAt w W wr.heap.size (u1, u2) (z1, z2) (y1, y2) (.slice A5 n5 c5) (O k) (wr.heap.size) (w3.heap.size)) := by
          show ChAt _ _ _ _ _ _ _ _ _ _
          rw [hW]
          have q := ChAt.al (ChAt.set2 (b := wr.heap.size) HQ3.out HFAR.out (Nat.le_refl _) (by omega) (.int .i64 z1) (.int .i64 z2)) (Obj.cells #[Value.int .i64 y1, Value.int .i64 y2] 25)
          exact ⟨q.1, q.2.1, q.2.2.1, q.2.2.2, ((P7.set z1 z2).grow _), (by have h := PC.start ((w3.setCell ⟨wr.heap.size, 0, none⟩ (.int .i64 z1)).setCell ⟨wr.heap.size, 1, none⟩ (.int .i64 z2)) y1 y2 25; simpa using h), HFAR.out, by omega, by omega⟩
        have q := HCA.out
        have e0 := q.left.c0
        have e1 := q.left.c1
        have h0 := q.now.c0
        have h1 := q.now.c1
        have hf0 := q.now.f0
        have hf1 := q.now.f1
        have t2 := q.rest.lt
        simp only at e0 e1 h0 h1
        clear q hW
        go_wp2_with (at_builtin; go_must (refine wpList_append_slsw pairS _ rfl _ _ 37 rfl (w.heap.size + 1 + 1) 25 i0 _ 16 Try.underlying37 hi hz0 hz1 hz2 rfl (by decide) (.slice A5 n5 c5) (O k) rfl (own_alloc HCA.out.own _) _ 1 1 [(z1, z2)] rfl rfl (slAt_one (heap_new (by simp))) (by have := HLk.out; simp only [List.length_cons, List.length_nil]; omega) (by simp; omega) ?_); intro A7 n7 k7 w7 ho7 hg7 hk7; have HB7 := Lib.hid (ba_grown (own_alloc HCA.out.own _) hg7 (by simp; omega)); have m0 := hg7.cell (alloc_some HCA.out.next.c0 (Obj.cells #[Value.int .i64 z1, Value.int .i64 z2] 25)) (fun e => by have h2 := HCA.out.far _ e.symm; have h3 := HCA.out.r2; simp only at h2; omega); have m1 := hg7.cell (alloc_some HCA.out.next.c1 (Obj.cells #[Value.int .i64 z1, Value.int .i64 z2] 25)) (fun e => by have h2 := HCA.out.far _ e.symm; have h3 := HCA.out.r2; simp only at h2; omega); have HP7 := Lib.hid ((HCA.out.now.grow (Obj.cells #[Value.int .i64 z1, Value.int .i64 z2] 25)).keep HB7.out (by omega)); have HR7 := Lib.hid ((HCA.out.rest.grow (Obj.cells #[Value.int .i64 z1, Value.int .i64 z2] 25)).keep HB7.out (by omega)); have HBW7 := Lib.hid ((HCA.out.bel.alloc HCA.out.bel.size (Obj.cells #[Value.int .i64 z1, Value.int .i64 z2] 25)).trans (HB7.out.mono (by omega))); have HO7 := Lib.hid ho7; have j0 := HP7.out.c0; have j1 := HP7.out.c1; have jf0 := HP7.out.f0; have jf1 := HP7.out.f1; have jl := HP7.out.lt; simp only at m0 m1 j0 j1; clear ho7 hg7 hk7)
        go_roundw
        case rel =>
          refine ⟨k + 1, A7, n7, k7, hlt, rfl, by congr 1, below_set2 HBW7.out _ _ (Nat.le_refl _), ?_, (HR7.out.far (by omega) _ _).far (by omega) _ _, ?_⟩
          · rw [HY.out]; exact HP7.out.set y1 y2
          · rw [HSk.out]; exact own_set1 (own_set1 HO7.out (by omega) _ _) (by omega) _ _
        case measure => simp [intOf]; omega
      · obtain ⟨W, hW⟩ : ∃ W, W = ((((w3.setCell ⟨wr.heap.size, 0, none⟩ (.int .i64 z1)).setCell ⟨wr.heap.size, 1, none⟩ (.int .i64 z2)).setCell ⟨(wr.heap.size + 1), 0, none⟩ (.int .i64 y1)).setCell ⟨(wr.heap.size + 1), 1, none⟩ (.int .i64 y2)) := ⟨_, rfl⟩
        rw [← hW]
        have HCA : Hid (ChAt w W wr.heap.size (u1, u2) (z1, z2) (y1, y2) (.slice A5 n5 c5) (O k) (wr.heap.size) (wr.heap.size + 1)) := by
          show ChAt _ _ _ _ _ _ _ _ _ _
          rw [hW]
          have q := (ChAt.set2 (b := wr.heap.size + 1) (ChAt.set2 (b := wr.heap.size) HQ3.out HFAR.out (Nat.le_refl _) (by omega) (.int .i64 z1) (.int .i64 z2)) HFAR.out (by omega) (by omega) (.int .i64 y1) (.int .i64 y2))
          exact ⟨q.1, q.2.1, q.2.2.1, q.2.2.2, (((P7.set z1 z2).far (by omega) _ _).far (by omega) _ _), (((P8.far (by omega) _ _).far (by omega) _ _).set y1 y2), HFAR.out, by omega, by omega⟩
        have q := HCA.out
        have e0 := q.left.c0
        have e1 := q.left.c1
        have h0 := q.now.c0
        have h1 := q.now.c1
        have hf0 := q.now.f0
        have hf1 := q.now.f1
        have t2 := q.rest.lt
        simp only at e0 e1 h0 h1
        clear q hW
        go_wp2_with (at_builtin; go_must (refine wpList_append_slsw pairS _ rfl _ _ 37 rfl (w.heap.size + 1 + 1) 25 i0 _ 16 Try.underlying37 hi hz0 hz1 hz2 rfl (by decide) (.slice A5 n5 c5) (O k) rfl (own_alloc HCA.out.own _) _ 1 1 [(z1, z2)] rfl rfl (slAt_one (heap_new (by simp))) (by have := HLk.out; simp only [List.length_cons, List.length_nil]; omega) (by simp; omega) ?_); intro A7 n7 k7 w7 ho7 hg7 hk7; have HB7 := Lib.hid (ba_grown (own_alloc HCA.out.own _) hg7 (by simp; omega)); have m0 := hg7.cell (alloc_some HCA.out.next.c0 (Obj.cells #[Value.int .i64 z1, Value.int .i64 z2] 25)) (fun e => by have h2 := HCA.out.far _ e.symm; have h3 := HCA.out.r2; simp only at h2; omega); have m1 := hg7.cell (alloc_some HCA.out.next.c1 (Obj.cells #[Value.int .i64 z1, Value.int .i64 z2] 25)) (fun e => by have h2 := HCA.out.far _ e.symm; have h3 := HCA.out.r2; simp only at h2; omega); have HP7 := Lib.hid ((HCA.out.now.grow (Obj.cells #[Value.int .i64 z1, Value.int .i64 z2] 25)).keep HB7.out (by omega)); have HR7 := Lib.hid ((HCA.out.rest.grow (Obj.cells #[Value.int .i64 z1, Value.int .i64 z2] 25)).keep HB7.out (by omega)); have HBW7 := Lib.hid ((HCA.out.bel.alloc HCA.out.bel.size (Obj.cells #[Value.int .i64 z1, Value.int .i64 z2] 25)).trans (HB7.out.mono (by omega))); have HO7 := Lib.hid ho7; have j0 := HP7.out.c0; have j1 := HP7.out.c1; have jf0 := HP7.out.f0; have jf1 := HP7.out.f1; have jl := HP7.out.lt; simp only at m0 m1 j0 j1; clear ho7 hg7 hk7)
        go_roundw
        case rel =>
          refine ⟨k + 1, A7, n7, k7, hlt, rfl, by congr 1, below_set2 HBW7.out _ _ (Nat.le_refl _), ?_, (HR7.out.far (by omega) _ _).far (by omega) _ _, ?_⟩
          · rw [HY.out]; exact HP7.out.set y1 y2
          · rw [HSk.out]; exact own_set1 (own_set1 HO7.out (by omega) _ _) (by omega) _ _
        case measure => simp [intOf]; omega
      · obtain ⟨W, hW⟩ : ∃ W, W = ((w3.setCell ⟨wr.heap.size, 0, none⟩ (.int .i64 y1)).setCell ⟨wr.heap.size, 1, none⟩ (.int .i64 y2)).alloc (Obj.cells #[Value.int .i64 z1, Value.int .i64 z2] 25) := ⟨_, rfl⟩
        rw [← hW]
        have HCA : Hid (ChAt w W wr.heap.size (u1, u2) (z1, z2) (y1, y2) (.slice A5 n5 c5) (O k) (w3.heap.size) (wr.heap.size)) := by
          show ChAt _ _ _ _ _ _ _ _ _ _
          rw [hW]
          have q := ChAt.al (ChAt.set2 (b := wr.heap.size) HQ3.out HFAR.out (Nat.le_refl _) (by omega) (.int .i64 y1) (.int .i64 y2)) (Obj.cells #[Value.int .i64 z1, Value.int .i64 z2] 25)
          exact ⟨q.1, q.2.1, q.2.2.1, q.2.2.2, (by have h := PC.start ((w3.setCell ⟨wr.heap.size, 0, none⟩ (.int .i64 y1)).setCell ⟨wr.heap.size, 1, none⟩ (.int .i64 y2)) z1 z2 25; simpa using h), ((P7.set y1 y2).grow _), HFAR.out, by omega, by omega⟩
        have q := HCA.out
        have e0 := q.left.c0
        have e1 := q.left.c1
        have h0 := q.now.c0
        have h1 := q.now.c1
        have hf0 := q.now.f0
        have hf1 := q.now.f1
        have t2 := q.rest.lt
        simp only at e0 e1 h0 h1
        clear q hW
        go_wp2_with (at_builtin; go_must (refine wpList_append_slsw pairS _ rfl _ _ 37 rfl (w.heap.size + 1 + 1) 25 i0 _ 16 Try.underlying37 hi hz0 hz1 hz2 rfl (by decide) (.slice A5 n5 c5) (O k) rfl (own_alloc HCA.out.own _) _ 1 1 [(z1, z2)] rfl rfl (slAt_one (heap_new (by simp))) (by have := HLk.out; simp only [List.length_cons, List.length_nil]; omega) (by simp; omega) ?_); intro A7 n7 k7 w7 ho7 hg7 hk7; have HB7 := Lib.hid (ba_grown (own_alloc HCA.out.own _) hg7 (by simp; omega)); have m0 := hg7.cell (alloc_some HCA.out.next.c0 (Obj.cells #[Value.int .i64 z1, Value.int .i64 z2] 25)) (fun e => by have h2 := HCA.out.far _ e.symm; have h3 := HCA.out.r2; simp only at h2; omega); have m1 := hg7.cell (alloc_some HCA.out.next.c1 (Obj.cells #[Value.int .i64 z1, Value.int .i64 z2] 25)) (fun e => by have h2 := HCA.out.far _ e.symm; have h3 := HCA.out.r2; simp only at h2; omega); have HP7 := Lib.hid ((HCA.out.now.grow (Obj.cells #[Value.int .i64 z1, Value.int .i64 z2] 25)).keep HB7.out (by omega)); have HR7 := Lib.hid ((HCA.out.rest.grow (Obj.cells #[Value.int .i64 z1, Value.int .i64 z2] 25)).keep HB7.out (by omega)); have HBW7 := Lib.hid ((HCA.out.bel.alloc HCA.out.bel.size (Obj.cells #[Value.int .i64 z1, Value.int .i64 z2] 25)).trans (HB7.out.mono (by omega))); have HO7 := Lib.hid ho7; have j0 := HP7.out.c0; have j1 := HP7.out.c1; have jf0 := HP7.out.f0; have jf1 := HP7.out.f1; have jl := HP7.out.lt; simp only at m0 m1 j0 j1; clear ho7 hg7 hk7)
        go_roundw
        case rel =>
          refine ⟨k + 1, A7, n7, k7, hlt, rfl, by congr 1, below_set2 HBW7.out _ _ (Nat.le_refl _), ?_, (HR7.out.far (by omega) _ _).far (by omega) _ _, ?_⟩
          · rw [HY.out]; exact HP7.out.set y1 y2
          · rw [HSk.out]; exact own_set1 (own_set1 HO7.out (by omega) _ _) (by omega) _ _
        case measure => simp [intOf]; omega
      · obtain ⟨W, hW⟩ : ∃ W, W = ((((w3.setCell ⟨(wr.heap.size + 1), 0, none⟩ (.int .i64 z1)).setCell ⟨(wr.heap.size + 1), 1, none⟩ (.int .i64 z2)).setCell ⟨wr.heap.size, 0, none⟩ (.int .i64 y1)).setCell ⟨wr.heap.size, 1, none⟩ (.int .i64 y2)) := ⟨_, rfl⟩
        rw [← hW]
        have HCA : Hid (ChAt w W wr.heap.size (u1, u2) (z1, z2) (y1, y2) (.slice A5 n5 c5) (O k) (wr.heap.size + 1) (wr.heap.size)) := by
          show ChAt _ _ _ _ _ _ _ _ _ _
          rw [hW]
          have q := (ChAt.set2 (b := wr.heap.size) (ChAt.set2 (b := wr.heap.size + 1) HQ3.out HFAR.out (by omega) (by omega) (.int .i64 z1) (.int .i64 z2)) HFAR.out (Nat.le_refl _) (by omega) (.int .i64 y1) (.int .i64 y2))
          exact ⟨q.1, q.2.1, q.2.2.1, q.2.2.2, (((P8.set z1 z2).far (by omega) _ _).far (by omega) _ _), (((P7.far (by omega) _ _).far (by omega) _ _).set y1 y2), HFAR.out, by omega, by omega⟩
        have q := HCA.out
        have e0 := q.left.c0
        have e1 := q.left.c1
        have h0 := q.now.c0
        have h1 := q.now.c1
        have hf0 := q.now.f0
        have hf1 := q.now.f1
        have t2 := q.rest.lt
        simp only at e0 e1 h0 h1
        clear q hW
        go_wp2_with (at_builtin; go_must (refine wpList_append_slsw pairS _ rfl _ _ 37 rfl (w.heap.size + 1 + 1) 25 i0 _ 16 Try.underlying37 hi hz0 hz1 hz2 rfl (by decide) (.slice A5 n5 c5) (O k) rfl (own_alloc HCA.out.own _) _ 1 1 [(z1, z2)] rfl rfl (slAt_one (heap_new (by simp))) (by have := HLk.out; simp only [List.length_cons, List.length_nil]; omega) (by simp; omega) ?_); intro A7 n7 k7 w7 ho7 hg7 hk7; have HB7 := Lib.hid (ba_grown (own_alloc HCA.out.own _) hg7 (by simp; omega)); have m0 := hg7.cell (alloc_some HCA.out.next.c0 (Obj.cells #[Value.int .i64 z1, Value.int .i64 z2] 25)) (fun e => by have h2 := HCA.out.far _ e.symm; have h3 := HCA.out.r2; simp only at h2; omega); have m1 := hg7.cell (alloc_some HCA.out.next.c1 (Obj.cells #[Value.int .i64 z1, Value.int .i64 z2] 25)) (fun e => by have h2 := HCA.out.far _ e.symm; have h3 := HCA.out.r2; simp only at h2; omega); have HP7 := Lib.hid ((HCA.out.now.grow (Obj.cells #[Value.int .i64 z1, Value.int .i64 z2] 25)).keep HB7.out (by omega)); have HR7 := Lib.hid ((HCA.out.rest.grow (Obj.cells #[Value.int .i64 z1, Value.int .i64 z2] 25)).keep HB7.out (by omega)); have HBW7 := Lib.hid ((HCA.out.bel.alloc HCA.out.bel.size (Obj.cells #[Value.int .i64 z1, Value.int .i64 z2] 25)).trans (HB7.out.mono (by omega))); have HO7 := Lib.hid ho7; have j0 := HP7.out.c0; have j1 := HP7.out.c1; have jf0 := HP7.out.f0; have jf1 := HP7.out.f1; have jl := HP7.out.lt; simp only at m0 m1 j0 j1; clear ho7 hg7 hk7)
        go_roundw
        case rel =>
          refine ⟨k + 1, A7, n7, k7, hlt, rfl, by congr 1, below_set2 HBW7.out _ _ (Nat.le_refl _), ?_, (HR7.out.far (by omega) _ _).far (by omega) _ _, ?_⟩
          · rw [HY.out]; exact HP7.out.set y1 y2
          · rw [HSk.out]; exact own_set1 (own_set1 HO7.out (by omega) _ _) (by omega) _ _
        case measure => simp [intOf]; omega
    · have hk1 : k = l.length - 1 := by omega
      have q1 : ¬ (k : Int) + 1 < (l.length : Int) := by omega
      have HRk : Hid (R = O k ++ [N k]) := by show _ = _; rw [HR.out, ← hk1]
      obtain ⟨⟨u1, u2⟩, hx⟩ : ∃ x, N k = x := ⟨_, rfl⟩
      rw [hx] at HRk HP1 P1
      obtain ⟨s1, c0, c1, f0, f1⟩ := P1.parts
      have s2 := P2.lt
      clear P1 P2 hx hA
      go_wp2_with (at_builtin; go_must (refine wpList_append_slsv pairS _ rfl _ _ 37 rfl (w.heap.size + 1 + 1) 25 i0 _ 16 Try.underlying37 hi hz0 hz1 hz2 rfl (by decide) (.slice A5 n5 c5) (O k) rfl (own_alloc HO.out _) _ 1 1 [(u1, u2)] rfl rfl (slAt_one (heap_new (by simp))) (by have := HLk.out; simp only [List.length_cons, List.length_nil]; omega) (by simp; omega) ?_); intro A7 n7 k7 w7 hn7 ho7 hb7; have HN7 := Lib.hid hn7; have HO7 := Lib.hid ho7; have HB7 := Lib.hid ((HB.out.alloc HB.out.size (Obj.cells #[Value.int .i64 u1, Value.int .i64 u2] 25)).trans (hb7.mono (by omega))); clear hn7 ho7 hb7)
      go_ret
      exact ⟨A7, n7, k7, rfl, by rw [HN7.out, List.length_append, HLk.out]; simp only [List.length_cons, List.length_nil]; omega, by rw [HRk.out]; exact HO7.out.base (by omega), HB7.out⟩
end Go.Proofs.Ytikmkmpekjijpaa
