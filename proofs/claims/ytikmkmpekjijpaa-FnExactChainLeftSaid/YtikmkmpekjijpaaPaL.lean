/- Balls on the program's side: chains. Written by gen/pal.py. -/
import Derived.Test.YtikmkmpekjijpaaPaH
import Derived.Test.YtikmkmpekjijpaaPacC
import Derived.Test.YtikmkmpekjijpaaBalP
import Derived.Test.YtikmkmpekjijpaaPaM
namespace Go.Proofs.Ytikmkmpekjijpaa
open Go.RowKit

theorem cst2 {W : World} {b g i : Nat} {v z1 z2 : Value} (h : W.cell? ⟨g, i, none⟩ = some v) (hne : b ≠ g) : ((W.setCell ⟨b, 0, none⟩ z1).setCell ⟨b, 1, none⟩ z2).cell? ⟨g, i, none⟩ = some v := by
  rw [← h]; simp [go_sem]
theorem pcfar2 {W : World} {b g : Nat} {x : Int × Int} {z1 z2 : Value} (h : PC g x W) (hne : b ≠ g) : PC g x ((W.setCell ⟨b, 0, none⟩ z1).setCell ⟨b, 1, none⟩ z2) := (h.far hne _ _).far hne _ _
theorem pcnew (W : World) (g : Nat) (z1 z2 : Value) (a b : Int) (e : TypeId) : PC W.heap.size (a, b) (((W.setCell ⟨g, 0, none⟩ z1).setCell ⟨g, 1, none⟩ z2).alloc (Obj.cells #[Value.int IntKind.i64 a, Value.int IntKind.i64 b] e)) := by
  have := PC.start ((W.setCell ⟨g, 0, none⟩ z1).setCell ⟨g, 1, none⟩ z2) a b e
  simpa [World.setCell] using this
theorem bzal2 {B : Nat} {w W : World} (h : Below B w W) (hB : B ≤ W.heap.size) (o1 o2 : Obj) : Below B w ((W.alloc o1).alloc o2) := (h.alloc hB o1).alloc (by simp; omega) o2
theorem bzst {B : Nat} {w W : World} (h : Below B w W) (_hB : B ≤ W.heap.size) {b : Nat} (z1 z2 : Value) (hb : B ≤ b) : Below B w ((W.setCell ⟨b, 0, none⟩ z1).setCell ⟨b, 1, none⟩ z2) := (h.setCell hb _).setCell hb _
/-- what the region reads still lies there -/
def RLc (wr : World) (ba o : Nat) (m : Int) (gp o2 : Nat) (u : Int × Int) (W : World) : Prop :=
  W.cell? ⟨ba, o, none⟩ = some (.int .i64 m) ∧ W.cell? ⟨gp, o2, none⟩ = some (.int .i64 u.1) ∧ W.cell? ⟨gp, o2 + 1, none⟩ = some (.int .i64 u.2) ∧ Below wr.heap.size wr W
section
variable {wr W W' : World} {ba o gp o2 : Nat} {m : Int} {u : Int × Int}
theorem RLc_bw (h : RLc wr ba o m gp o2 u W) (hb : Below W.heap.size W W') : RLc wr ba o m gp o2 u W' := ⟨Below.cell_some hb h.1, Below.cell_some hb h.2.1, Below.cell_some hb h.2.2.1, h.2.2.2.trans (hb.mono h.2.2.2.size)⟩
theorem RLc_be (h : RLc wr ba o m gp o2 u W) : Below wr.heap.size wr W := h.2.2.2
theorem RLc_al (h : RLc wr ba o m gp o2 u W) (ob : Obj) : RLc wr ba o m gp o2 u (W.alloc ob) := RLc_bw h ((Below.refl _ _).alloc (Nat.le_refl _) _)
end
theorem own_head {w : World} {B n c : Nat} {e : TypeId} {A : Option Addr} {l : List (Int × Int)} (h : SlOwn pairS w B e (.slice A n c) l) (hl : 0 < l.length) : ∃ g, A = some ⟨g, 0, none⟩ := by
  rcases h.2 with ⟨_, h0⟩ | ⟨g, cap, cur, hv, _⟩
  · omega
  · injection hv with e1 _ _
    exact ⟨g, e1⟩
theorem own_one (w : World) (a b : Int) (e : TypeId) : SlOwn pairS (w.alloc (Obj.cells #[Value.int IntKind.i64 a, Value.int IntKind.i64 b] e)) w.heap.size e (.slice (some ⟨w.heap.size, 0, none⟩) 1 1) [(a, b)] := by
  refine ⟨by simp [pairS, Shape.row], .inr ⟨w.heap.size, 1, #[Value.int IntKind.i64 a, Value.int IntKind.i64 b], rfl, Nat.le_refl _, heap_alloc_new _ _, ?_⟩⟩
  refine ⟨by simp, by unfold maxLen; omega, by simp [pairS], ?_⟩
  simp [pairS, Shape.row]

set_option maxRecDepth 100000 in
set_option maxHeartbeats 8000000 in
theorem chainOf_any (A : Option Addr) (c : Nat) (l : List Int) (w : World) (hn : l.length ≤ 1048576) (hc : l.length ≤ c) (hA : SlAt intS w A l) :
    Calls Try.prog 83 #[.slice A l.length c] w fun e w' => ∃ A1 n1 c1, e = .returned (.tuple #[.slice A1 n1 c1, .bool (chB l)]) ∧ n1 = (clW l).length ∧ SlOwn pairS w' w.heap.size 25 (.slice A1 n1 c1) (clW l) ∧ Below w.heap.size w w' := by
  by_cases h2 : 2 ≤ l.length ∧ l.length ≤ 5
  · obtain ⟨i0, hi, hz0, hz1, hz2⟩ := info_parts paceInfo
    obtain ⟨h2, h5⟩ := h2
    obtain ⟨ba, off, rfl, l0, hcell⟩ := hA.int_at (show 0 < l.length by omega)
    have hcl : ∀ j, j < l.length → w.cell? ⟨ba, off + j, none⟩ = some (.int .i64 (l.getD j 0)) := fun j hj => by
      have := hcell j _ (List.getElem?_eq_getElem hj)
      rwa [List.getD_eq_getElem?_getD, List.getElem?_eq_getElem hj]
    have HCL := Lib.hid hcl
    clear hcell hcl hA
    have hL2 : ¬ (l.length : Int) < 2 := by omega
    have hL5 : ¬ (5 : Int) < (l.length : Int) := by omega
    have hc1 : ¬ c = 1 := by omega
    have hc2 : (1 : Int) ≤ (l.length : Int) := by omega
    have hc3 : (l.length : Int) ≤ (c : Int) := by omega
    go_enter Try.func83, Try.ntmps83
    go_wp2_with fail
    refine (whole_any 1 _).mono ?_
    rintro e w1 ⟨rfl, hb1⟩
    have HO1 := Lib.hid (own_one w1 1 1 25)
    have HB1 := Lib.hid (hb1.alloc hb1.size (Obj.cells #[Value.int IntKind.i64 1, Value.int IntKind.i64 1] 25))
    have hs1 := hb1.size
    clear hb1
    go_wp2
    have HLN : Hid (l.length - 1 + 1 = l.length) := by show _ = _; omega
    obtain ⟨N1, hN1⟩ : ∃ N1, N1 = l.length - 1 := ⟨_, rfl⟩
    rw [← hN1] at HLN ⊢
    have hN := Lib.hid hN1
    have hw21 : ((N1 : Nat) : Int) ≤ (c : Int) := by omega
    clear hN1
    go_loopw [4, 23] (fun ps i wr => ∃ (k : Nat) (A4 : Option Addr) (n4 c4 : Nat), k ≤ N1 ∧ ps = .slice A4 n4 c4 ∧ i = .int .i64 (k : Int) ∧ Below w.heap.size w wr ∧ SlOwn pairS wr w.heap.size 25 (.slice A4 n4 c4) (chP l k) ∧ (∀ j, j ≤ k → 0 < k → 1 ≤ l.getD j 0 ∧ l.getD j 0 ≤ 9) ∧ paP (chNow l k) = true)
      (fun _ i _ => N1 - (intOf i).toNat)
    case atStart => exact ⟨0, _, 1, 1, Nat.zero_le _, rfl, rfl, HB1.out, HO1.out.base hs1, fun j _ h => absurd h (by omega), chNow_zero_pa l⟩
    case round =>
      obtain ⟨k, A4, n4, c4, hk, rfl, rfl, hb, ho, hat, hpa⟩ := hrel
      have HB := Lib.hid hb
      have HO := Lib.hid ho
      have HAT := Lib.hid hat
      have HPA := Lib.hid hpa
      have hn4 := ba_len ho
      rw [chP_len] at hn4
      have HN4 := Lib.hid hn4
      have hn4' : (k : Int) < (n4 : Int) := by omega
      clear hn4
      have hlw := hb.size
      have hcell0 := fun j hj => Below.cell_some hb (HCL.out j hj)
      by_cases hlt : k < N1
      · have x0 := hcell0 k (by have := HLN.out; omega)
        have x1 := hcell0 (k + 1) (by have := HLN.out; omega)
        rw [show off + (k + 1) = off + 1 + k by omega] at x1
        obtain ⟨gp, rfl⟩ := own_head ho (by rw [chP_len]; omega)
        have hgp := (World.ownsRow.lt ho gp rfl).2
        have hgp0 := (World.ownsRow.lt ho gp rfl).1
        obtain ⟨b', off', hbe, _, hc0⟩ := (slAt_ants ho.sl).at_ (show k < (chP l k).length by rw [chP_len]; omega)
        injection hbe with hbe
        injection hbe with e1 e2 _
        subst e1; subst e2
        obtain ⟨y0, y1⟩ := hc0 k (by rw [chP_len]; omega)
        rw [chP_at] at y0 y1
        have hk3 : k ≤ 3 := by have := HLN.out; omega
        have hck := ch_ck hk3 hat hpa
        have hset := chP_succ l k
        have HC : Hid (∀ w, Calls Try.prog 23 #[.int .i64 (l.getD k 0), .agg #[.int .i64 (chNow l k).1, .int .i64 (chNow l k).2], .int .i64 (l.getD (k + 1) 0), .agg #[.int .i64 0, .int .i64 1]] w fun e w' =>
            e = .returned (.tuple #[.agg #[.int .i64 (ckV (l.getD k 0) (chNow l k) (l.getD (k + 1) 0) (0, 1)).1.1, .int .i64 (ckV (l.getD k 0) (chNow l k) (l.getD (k + 1) 0) (0, 1)).1.2], .agg #[.int .i64 (ckV (l.getD k 0) (chNow l k) (l.getD (k + 1) 0) (0, 1)).2.1, .int .i64 (ckV (l.getD k 0) (chNow l k) (l.getD (k + 1) 0) (0, 1)).2.2], .bool (ckOk (l.getD k 0) (chNow l k) (l.getD (k + 1) 0) (0, 1))]) ∧ Below w.heap.size w w') := fun w => implClack_any _ _ _ (0, 1) w
        have HF : Hid (ckOk (l.getD k 0) (chNow l k) (l.getD (k + 1) 0) (0, 1) = false → chB l = false) := fun h => by
          rw [hck.1] at h
          rcases (by revert h; cases maB (l.getD k 0) <;> simp : maB (l.getD k 0) = false ∨ maB (l.getD (k + 1) 0) = false) with h | h
          · exact chB_bad (j := k) (by have := HLN.out; omega) h
          · exact chB_bad (j := k + 1) (by have := HLN.out; omega) h
        have HT : Hid (ckOk (l.getD k 0) (chNow l k) (l.getD (k + 1) 0) (0, 1) = true → ((chP l k).set k (ckV (l.getD k 0) (chNow l k) (l.getD (k + 1) 0) (0, 1)).1 ++ [(ckV (l.getD k 0) (chNow l k) (l.getD (k + 1) 0) (0, 1)).2] = chP l (k + 1)) ∧ (∀ j, j ≤ k + 1 → 0 < k + 1 → 1 ≤ l.getD j 0 ∧ l.getD j 0 ≤ 9) ∧ paP (chNow l (k + 1)) = true) := fun h => by
          rw [hck.1] at h
          obtain ⟨e1, e2⟩ := hck.2 h
          rw [Bool.and_eq_true, maB_iff, maB_iff] at h
          refine ⟨?_, fun j hj _ => ?_, e2⟩
          · rw [e1]; exact hset
          · rcases (by omega : j ≤ k ∧ 0 < k ∨ j = k ∨ j = k + 1) with h3 | h3 | h3
            · exact hat j h3.1 h3.2
            · subst h3; exact h.1
            · subst h3; exact h.2
        generalize ckOk (l.getD k 0) (chNow l k) (l.getD (k + 1) 0) (0, 1) = R at *
        generalize ckV (l.getD k 0) (chNow l k) (l.getD (k + 1) 0) (0, 1) = Z at *
        generalize l.getD k 0 = m at *
        generalize l.getD (k + 1) 0 = n at *
        clear hset hck hat hpa ho hb hcell0 hc0
        obtain ⟨⟨u1, u2⟩, hu⟩ : ∃ x, chNow l k = x := ⟨_, rfl⟩
        rw [hu] at y0 y1 HC
        obtain ⟨⟨z1, z2⟩, ⟨v1, v2⟩⟩ := Z
        simp only at y0 y1 HC HT
        clear hu
        rw [Nat.zero_add] at y0 y1
        have kw : IntKind.i64.wrap (k : Int) = (k : Int) := IntWalk.i64_in _ (by omega)
        have kw1 : IntKind.i64.wrap ((k : Int) + 1) = (k : Int) + 1 := IntWalk.i64_in _ (by omega)
        have kl : (k : Int) < (N1 : Int) := by omega
        have kl2 : (k : Int) < (l.length : Int) := by have := HLN.out; omega
        go_wp2
        have X0 := x0
        have Y0 := y0
        have Y1 := y1
        have HWH := Lib.hid (whole_any 0)
        have HQ0 : Hid (RLc wr ba (off + k) m gp (k * 2) (u1, u2) wr) := ⟨x0, y0, y1, Below.refl _ _⟩
        have t0 := hlw
        go_cut [7, 8, 9] from 28 to 42 (fun p p2 q wx => ∃ g h : Nat, p = .pointer (some ⟨g, 0, none⟩) ∧ p2 = .pointer (some ⟨h, 0, none⟩) ∧ q = .bool R ∧ PC g (z1, z2) wx ∧ PC h (v1, v2) wx ∧ wr.heap.size ≤ g ∧ wr.heap.size ≤ h ∧ Below wr.heap.size wr wx)
        case first =>
          go_region_held3 (fun w' => w'.cell? ⟨ba, off + k, none⟩ = some (.int .i64 m) ∧ w'.cell? ⟨gp, k * 2, none⟩ = some (.int .i64 u1) ∧ w'.cell? ⟨gp, k * 2 + 1, none⟩ = some (.int .i64 u2))
            (first | with_reducible exact ⟨X0, Y0, Y1⟩ | with_reducible exact ⟨alloc_some X0 _, alloc_some Y0 _, alloc_some Y1 _⟩ | with_reducible exact ⟨cst2 X0 (by omega), cst2 Y0 (by omega), cst2 Y1 (by omega)⟩ | with_reducible exact ⟨alloc_some (alloc_some X0 _) _, alloc_some (alloc_some Y0 _) _, alloc_some (alloc_some Y1 _) _⟩ | with_reducible exact ⟨cst2 (alloc_some X0 _) (by omega), cst2 (alloc_some Y0 _) (by omega), cst2 (alloc_some Y1 _) (by omega)⟩ | with_reducible exact ⟨alloc_some (cst2 X0 (by omega)) _, alloc_some (cst2 Y0 (by omega)) _, alloc_some (cst2 Y1 (by omega)) _⟩ | with_reducible exact ⟨cst2 (cst2 X0 (by omega)) (by omega), cst2 (cst2 Y0 (by omega)) (by omega), cst2 (cst2 Y1 (by omega)) (by omega)⟩ | with_reducible exact ⟨cst2 (alloc_some (alloc_some X0 _) _) (by omega), cst2 (alloc_some (alloc_some Y0 _) _) (by omega), cst2 (alloc_some (alloc_some Y1 _) _) (by omega)⟩ | with_reducible exact ⟨cst2 (cst2 (alloc_some X0 _) (by omega)) (by omega), cst2 (cst2 (alloc_some Y0 _) (by omega)) (by omega), cst2 (cst2 (alloc_some Y1 _) (by omega)) (by omega)⟩ | with_reducible exact ⟨cst2 (alloc_some (cst2 X0 (by omega)) _) (by omega), cst2 (alloc_some (cst2 Y0 (by omega)) _) (by omega), cst2 (alloc_some (cst2 Y1 (by omega)) _) (by omega)⟩ | go_keep)
            (first
              | (go_at_call 84; (with_reducible refine (HWH.out _).mono ?_); rintro e q1 ⟨rfl, hbx⟩; have hbw := below_drew hbx; have HQ1 := Lib.hid (show RLc wr ba (off + k) m gp (k * 2) (u1, u2) q1 from (by first | exact RLc_bw HQ0.out hbw | exact RLc_bw (RLc_al HQ0.out _) hbw | exact RLc_bw (RLc_al (RLc_al HQ0.out _) _) hbw)); (first | (have U1 := Lib.hid (U0.out.below hbw)) | (have U1 := Lib.hid ((U0.out.grow _).below hbw)) | (have U1 : Hid (PC wr.heap.size (0, 0) q1) := (PC.start wr 0 0 _).below hbw) | (have U1 : Hid (PC wr.heap.size (0, 0) q1) := ((PC.start wr 0 0 _).grow _).below hbw) | skip); (first | (have V1 := Lib.hid (V0.out.below hbw)) | (have hU := U0; have V1 : Hid (PC wr.heap.size (0, 0) q1) := (PC.start wr 0 0 _).below hbw; clear hU) | (have V1 : Hid (PC (wr.heap.size + 1) (0, 0) q1) := (PC.at1 wr _ 0 0 _).below hbw) | skip); have t1 := hbw.size; (try simp at t1); have X0 := HQ1.out.1; have Y0 := HQ1.out.2.1; have Y1 := HQ1.out.2.2.1; simp only at Y0 Y1; (first | (obtain ⟨_, ux0, ux1, uf0, uf1⟩ := U1.out.parts; simp only at ux0 ux1) | skip); (first | (obtain ⟨_, vx0, vx1, vf0, vf1⟩ := V1.out.parts; simp only at vx0 vx1) | skip); clear hbx hbw)
              | (go_at_call 23; (with_reducible refine (HC.out _).mono ?_); rintro e q2 ⟨rfl, hbx⟩; have hbw := hbx; have HQ2 := Lib.hid (show RLc wr ba (off + k) m gp (k * 2) (u1, u2) q2 from (by first | exact RLc_bw HQ1.out hbw | exact RLc_bw (RLc_al HQ1.out _) hbw | exact RLc_bw (RLc_al (RLc_al HQ1.out _) _) hbw)); (first | (have U2 := Lib.hid (U1.out.below hbw)) | (have U2 := Lib.hid ((U1.out.grow _).below hbw)) | (have U2 : Hid (PC q1.heap.size (0, 0) q2) := (PC.start q1 0 0 _).below hbw) | (have U2 : Hid (PC q1.heap.size (0, 0) q2) := ((PC.start q1 0 0 _).grow _).below hbw) | skip); (first | (have V2 := Lib.hid (V1.out.below hbw)) | (have hU := U1; have V2 : Hid (PC q1.heap.size (0, 0) q2) := (PC.start q1 0 0 _).below hbw; clear hU) | (have V2 : Hid (PC (q1.heap.size + 1) (0, 0) q2) := (PC.at1 q1 _ 0 0 _).below hbw) | skip); have t2 := hbw.size; (try simp at t2); have X0 := HQ2.out.1; have Y0 := HQ2.out.2.1; have Y1 := HQ2.out.2.2.1; simp only at Y0 Y1; (first | (obtain ⟨_, ux0, ux1, uf0, uf1⟩ := U2.out.parts; simp only at ux0 ux1) | skip); (first | (obtain ⟨_, vx0, vx1, vf0, vf1⟩ := V2.out.parts; simp only at vx0 vx1) | skip); clear hbx hbw))
          all_goals (
            go_wp2_with fail
            go_meet
            case rel =>
              refine ⟨_, _, rfl, rfl, rfl, ?_, ?_, by omega, by omega, ?_⟩
              · (first | with_reducible exact U2.out.set _ _ | with_reducible exact pcfar2 (U2.out.set _ _) (by omega) | with_reducible exact (pcfar2 U2.out (by omega)).set _ _ | with_reducible exact (U2.out.set _ _).grow _ | with_reducible exact V2.out.set _ _ | with_reducible exact pcfar2 (V2.out.set _ _) (by omega) | with_reducible exact (pcfar2 V2.out (by omega)).set _ _ | with_reducible exact (V2.out.set _ _).grow _ | with_reducible exact PC.start _ _ _ _ | with_reducible exact pcnew _ _ _ _ _ _ _ | with_reducible exact (PC.start _ _ _ _).grow _ | with_reducible exact PC.at1 _ _ _ _ _)
              · (first | with_reducible exact U2.out.set _ _ | with_reducible exact pcfar2 (U2.out.set _ _) (by omega) | with_reducible exact (pcfar2 U2.out (by omega)).set _ _ | with_reducible exact (U2.out.set _ _).grow _ | with_reducible exact V2.out.set _ _ | with_reducible exact pcfar2 (V2.out.set _ _) (by omega) | with_reducible exact (pcfar2 V2.out (by omega)).set _ _ | with_reducible exact (V2.out.set _ _).grow _ | with_reducible exact PC.start _ _ _ _ | with_reducible exact pcnew _ _ _ _ _ _ _ | with_reducible exact (PC.start _ _ _ _).grow _ | with_reducible exact PC.at1 _ _ _ _ _)
              · (first | with_reducible exact (RLc_be HQ2.out) | with_reducible exact (RLc_be HQ2.out).alloc (RLc_be HQ2.out).size _ | with_reducible exact bzal2 (RLc_be HQ2.out) (RLc_be HQ2.out).size _ _ | with_reducible exact bzst (RLc_be HQ2.out) (RLc_be HQ2.out).size _ _ (by omega) | with_reducible exact bzst (bzst (RLc_be HQ2.out) (RLc_be HQ2.out).size _ _ (by omega)) (bzst (RLc_be HQ2.out) (RLc_be HQ2.out).size _ _ (by omega)).size _ _ (by omega) | with_reducible exact bzst ((RLc_be HQ2.out).alloc (RLc_be HQ2.out).size _) ((RLc_be HQ2.out).alloc (RLc_be HQ2.out).size _).size _ _ (by omega) | with_reducible exact (bzst (RLc_be HQ2.out) (RLc_be HQ2.out).size _ _ (by omega)).alloc (bzst (RLc_be HQ2.out) (RLc_be HQ2.out).size _ _ (by omega)).size _))
        case rest =>
        obtain ⟨g, h, hp, hp2, hq, hX, hY, hg, hh, hZ⟩ := hcut
        subst hp
        subst hp2
        subst hq
        obtain ⟨Z0, rfl⟩ : ∃ X, X = wc := ⟨_, rfl⟩
        have HBZ := Lib.hid (HB.out.trans (hZ.mono HB.out.size))
        cases R with
        | false =>
          have HL := Lib.hid (HF.out rfl)
          have HV := Lib.hid (cl_f HL.out)
          clear hX hY hZ
          go_wp2
          exact bodyPost_ret (v := .tuple #[.slice none 0 0, .bool false]) (by simp [results, Try.results83, go_sem]) rfl ⟨none, 0, 0, by rw [HL.out], by rw [HV.out]; rfl, by rw [HV.out]; exact SlOwn.nil _ _ _ _, HBZ.out⟩
        | true =>
          obtain ⟨hs1, hs2, hs3⟩ := HT.out rfl
          have HS1 := Lib.hid hs1
          have HS2 := Lib.hid hs2
          have HS3 := Lib.hid hs3
          have HOZ := Lib.hid (HO.out.below hZ)
          have HX := Lib.hid hX
          have HY := Lib.hid hY
          obtain ⟨_, p0, p1, _, _⟩ := hX.parts
          simp only at p0 p1
          obtain ⟨cv0, cv1, cc0, cc1, cf0, cf1, hst, hgr⟩ := AntsOwn.store (antsOwn_iff.2 HOZ.out) (k := k) (by rw [chP_len]; omega) z1 z2
          have HST := Lib.hid (antsOwn_iff.1 hst)
          have HGR := Lib.hid hgr
          obtain ⟨W9, hW9⟩ : ∃ X, X = (Z0.setCell ⟨gp, k * 2, none⟩ (.int .i64 z1)).setCell ⟨gp, k * 2 + 1, none⟩ (.int .i64 z2) := ⟨_, rfl⟩
          have HY9 : Hid (PC h (v1, v2) W9) := by show PC _ _ _; rw [hW9]; exact HY.out.kept HGR.out (fun e => by injection e with e; omega)
          have HB9 : Hid (Below w.heap.size w W9) := by show Below _ _ _; rw [hW9]; exact (HBZ.out.setCell hgp0 _).setCell hgp0 _
          have HO9 : Hid (SlOwn pairS W9 w.heap.size 25 (.slice (some ⟨gp, 0, none⟩) n4 c4) ((chP l k).set k (z1, z2))) := by show SlOwn _ _ _ _ _ _; rw [hW9]; exact HST.out
          have HL9 : Hid (((chP l k).set k (z1, z2)).length = k + 1) := by show _ = _; rw [List.length_set, chP_len]
          obtain ⟨_, r0, r1, _, _⟩ := hY.parts
          simp only at r0 r1
          have hne1 : ¬ gp = h := by omega
          have hne2 : ¬ h = gp := by omega
          clear hs1 hs2 hs3 hst hgr hX hY hZ
          generalize hP : (chP l k).set k (z1, z2) = P9 at *
          clear hP
          subst hW9
          go_wp2_with (at_builtin; go_must (refine wpList_append_slsw pairS _ rfl _ _ 37 rfl w.heap.size 25 i0 _ 16 Try.underlying37 hi hz0 hz1 hz2 rfl (by decide) (.slice (some ⟨gp, 0, none⟩) n4 c4) P9 rfl (own_alloc HO9.out _) _ 1 1 [(v1, v2)] rfl rfl (slAt_one (heap_new (by simp))) (by have := HL9.out; simp only [List.length_cons, List.length_nil]; omega) (by have := HB9.out.size; simp; omega) ?_; intro A5 n5 c5 w5 ho5 hg5 hk5; have HO5 := Lib.hid ho5; have HB5 := Lib.hid ((HB9.out.alloc HB9.out.size (Obj.cells #[Value.int .i64 v1, Value.int .i64 v2] 25)).trans (ba_grown (own_alloc HO9.out _) hg5 (by have := HB9.out.size; simp; omega))); clear ho5 hg5 hk5))
          go_roundw
          case rel => exact ⟨k + 1, A5, n5, c5, by omega, rfl, by congr 1, HB5.out, by rw [← HS1.out]; exact HO5.out, HS2.out, HS3.out⟩
          case measure => simp [intOf]; omega
      · obtain rfl : k = N1 := by omega
        have HL : Hid (chB l = true) := by
          have e := HLN.out
          exact chB_all h2 h5 (fun j hj => HAT.out j (by omega) (by omega))
        have HV : Hid (clW l = chP l k) := by
          have e := HLN.out
          show _ = _
          rw [cl_t HL.out, ← chP_last, ← e, Nat.add_sub_cancel]
        clear ho hb hat hpa hcell0
        go_wp2
        exact bodyPost_ret (v := .tuple #[.slice A4 n4 c4, .bool true]) (by simp [results, Try.results83, go_sem]) rfl ⟨A4, n4, c4, by rw [HL.out], by rw [HV.out, chP_len, HN4.out], by rw [HV.out]; exact HO.out, HB.out⟩
  · have HE := Lib.hid (chB_short h2)
    have HV : Hid (clW l = []) := cl_f HE.out
    generalize chB l = R at *
    generalize clW l = V at *
    clear hA
    go_enter Try.func83, Try.ntmps83
    by_cases h3 : l.length < 2
    · have hL2 : (l.length : Int) < 2 := by omega
      go_wp2
      exact bodyPost_ret (v := .tuple #[.slice none 0 0, .bool false]) (by simp [results, Try.results83, go_sem]) rfl ⟨none, 0, 0, by rw [HE.out], by rw [HV.out]; rfl, by rw [HV.out]; exact SlOwn.nil _ _ _ _, Below.refl _ _⟩
    · have hL2 : ¬ (l.length : Int) < 2 := by omega
      have hL5 : (5 : Int) < (l.length : Int) := by omega
      go_wp2
      exact bodyPost_ret (v := .tuple #[.slice none 0 0, .bool false]) (by simp [results, Try.results83, go_sem]) rfl ⟨none, 0, 0, by rw [HE.out], by rw [HV.out]; rfl, by rw [HV.out]; exact SlOwn.nil _ _ _ _, Below.refl _ _⟩
end Go.Proofs.Ytikmkmpekjijpaa
