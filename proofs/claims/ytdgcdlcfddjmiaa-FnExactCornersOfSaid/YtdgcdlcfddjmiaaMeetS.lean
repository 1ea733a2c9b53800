/- The model's meetings: pairs of ghosts that cross, each put into its place. -/
import Derived.Test.YtdgcdlcfddjmiaaMeetI
import Derived.BigQuiet
namespace Go.Proofs.Ytdgcdlcfddjmiaa
open Go.RowKit

theorem take_drop_gPut {l : List (Int × Int × Int)} {x : Int × Int × Int} {K : Nat} (h : K = gK mLt (0, 0, 0) l x l.length) : [] ++ l.take K ++ [x] ++ l.drop K = gPut mLt (0, 0, 0) l x := by
  subst h; unfold gPut; simp
theorem SlAt.dropIfT {w : World} {b off : Nat} {l : List (Int × Int × Int)} (h : SlAt tripS w (some ⟨b, off, none⟩) l) (k c : Nat) (hc : l.length ≤ c) :
    SlAt tripS w (if c = k + 1 then some ⟨b, off, none⟩ else some ⟨b, off + (k + 1) * 3, none⟩) (l.drop (k + 1)) := by
  split
  · exact .inl (List.drop_eq_nil_of_le (by omega))
  · exact h.drop (k + 1)
theorem cntS_snoc (L T P : Int) (l : List (Int × Int)) (j : Nat) (x : Int × Int) (hx : l[j]? = some x) : cntS L T P (l.take (j + 1)) = cntS L T P (l.take j) + if leftB L T P x then 1 else 0 := by
  obtain ⟨hj, rfl⟩ := List.getElem?_eq_some_iff.1 hx
  unfold cntS
  rw [List.take_succ_eq_append_getElem hj, List.filter_append, List.length_append]
  congr 1
  cases h : leftB L T P l[j] <;> simp [h]
theorem cntS_le (L T P : Int) (l : List (Int × Int)) (j : Nat) : cntS L T P (l.take j) ≤ j := by
  unfold cntS
  refine Nat.le_trans (List.length_filter_le _ _) ?_
  rw [List.length_take]; omega
theorem rowS_len (L : Int) (l : List (Int × Int)) (p : Nat) : ∀ q, (rowS L l p q).length ≤ q
  | 0 => Nat.le_refl _
  | q + 1 => by
    unfold rowS
    rw [List.length_append]
    have := rowS_len L l p q
    split <;> simp <;> omega
theorem genS_len (L : Int) (l : List (Int × Int)) : ∀ p, (genS L l p).length ≤ p * l.length
  | 0 => Nat.zero_le _
  | p + 1 => by
    unfold genS
    rw [List.length_append, Nat.add_mul, Nat.one_mul]
    have h1 := genS_len L l p
    have h2 := rowS_len L l p (l.length - (p + 1))
    omega
theorem mEnd_b (L a y : Int) (w : World) (h0 : 0 ≤ a) (h1 : a ≤ 1000) (h2 : 0 ≤ L) (h3 : L ≤ 1000) :
    Calls Try.prog 81 #[.int .i64 L, .agg #[.int .i64 a, .int .i64 y]] w fun e w' => e = .returned (.int .i64 (mEnd L (a, y))) ∧ Below w.heap.size w w' := by
  have hw : IntKind.i64.wrap (L - a) = L - a := IntWalk.i64_in _ (by omega)
  by_cases hy : y < 0
  · have HV : Hid (mEnd L (a, y) = a) := by show _ = _; unfold mEnd; rw [if_pos hy]
    go_enter Try.func81, Try.ntmps81
    go_wp2
    go_ret
    exact ⟨ret_int HV.out.symm, (Below.refl _ _).alloc (Nat.le_refl _) _⟩
  · have HV : Hid (mEnd L (a, y) = L - a) := by show _ = _; unfold mEnd; rw [if_neg hy]
    go_enter Try.func81, Try.ntmps81
    go_wp2
    go_ret
    exact ⟨ret_int HV.out.symm, (Below.refl _ _).alloc (Nat.le_refl _) _⟩

set_option maxRecDepth 100000 in
set_option maxHeartbeats 4000000 in
theorem meAll_good (L : Int) (A : Option Addr) (c : Nat) (l : List (Int × Int)) (w : World) (hg : goodB L l = true) (hcap : l.length ≤ c) (hA : AntsAt w A l) :
    Calls Try.prog 52 #[.agg #[.int .i64 L, .slice A l.length c]] w fun e w' => ∃ A' n' c', e = .returned (.slice A' n' c') ∧ n' = (meL L l).length ∧ SlOwn tripS w' w.heap.size 42 (.slice A' n' c') (meL L l) ∧ Below w.heap.size w w' := by
  obtain ⟨i0, hi, hz0, hz1, hz2⟩ := info_parts meetI
  have OA := Lib.hid (hA.alloc (Obj.cells #[Value.int IntKind.i64 L, Value.slice A l.length c] 31))
  have hnl := good_len hg
  obtain ⟨hL0, hL1, _⟩ := good_hdr hg
  have HGG := Lib.hid hg
  clear hA hg
  go_enter Try.func52, Try.ntmps52
  go_wp2
  go_loopw [3, 17] (fun v i wr => ∃ (k : Nat) (A3 : Option Addr) (n3 c3 : Nat), k ≤ l.length ∧ i = .int .i64 k ∧ v = .slice A3 n3 c3 ∧ Below (w.heap.size + 1) (w.alloc (Obj.cells #[Value.int IntKind.i64 L, Value.slice A l.length c] 31)) wr ∧ SlOwn tripS wr (w.heap.size + 1) 42 (.slice A3 n3 c3) (mAllS (genS L l k)))
    (fun _ i _ => l.length - (intOf i).toNat)
  case atStart => exact ⟨0, none, 0, 0, Nat.zero_le _, rfl, rfl, Below.refl _ _, SlOwn.nil tripS _ _ _⟩
  case round =>
    obtain ⟨k, A3, n3, c3, hk, rfl, rfl, hb, hown⟩ := hrel
    obtain ⟨W1, rfl⟩ : ∃ W, W = wr := ⟨_, rfl⟩
    have hs : w.heap.size < W1.heap.size := by have := hb.size; simp at this; omega
    have c0 : W1.cell? ⟨w.heap.size, 0, none⟩ = some (.int .i64 L) := by rw [hb.cell (p := ⟨w.heap.size, 0, none⟩) (by simp)]; simp
    have c1 : W1.cell? ⟨w.heap.size, 1, none⟩ = some (.slice A l.length c) := by rw [hb.cell (p := ⟨w.heap.size, 1, none⟩) (by simp)]; simp
    have OB := Lib.hid hb
    have OAr := Lib.hid (OA.out.below (hb.mono (by simp)))
    have OO := Lib.hid hown
    clear hb hown
    by_cases hlt : k < l.length
    · obtain ⟨b1, off1, rfl, l0, hc⟩ := OAr.out.at_ hlt
      obtain ⟨a0, a1⟩ := hc k hlt
      have hx : l[k]? = some (l.getD k (0, 0)) := by rw [List.getD_eq_getElem?_getD, List.getElem?_eq_getElem hlt]; rfl
      obtain ⟨q0, q1, _, qw⟩ := good_ant HGG.out hx
      have OSN : Hid (genS L l (k + 1) = genS L l k ++ rowS L l k (l.length - (k + 1))) := rfl
      have OLN : Hid ((genS L l k).length ≤ 256) := by
        show _ ≤ _
        have h1 := genS_len L l k
        have h2 : k * l.length ≤ 16 * 16 := Nat.mul_le_mul (by omega) (by omega)
        omega
      have ORD : Hid (∀ q, k + 1 + q < l.length → antLt (l.getD k (0, 0)) (l.getD (k + 1 + q) (0, 0)) = true) := fun q hq => good_lt HGG.out k (k + 1 + q) (by omega) hq
      have ORW : Hid (∀ q, rowS L l k (q + 1) = rowS L l k q ++ if (l.getD k (0, 0)).2 < 0 ∨ 0 < (l.getD (k + 1 + q) (0, 0)).2 then [] else
        [mMk (l.getD k (0, 0)) (l.getD (k + 1 + q) (0, 0)) (cntS L (((l.getD (k + 1 + q) (0, 0)).1 - (l.getD k (0, 0)).1) / 2) (((l.getD k (0, 0)).1 + (l.getD (k + 1 + q) (0, 0)).1) / 2) l)]) := fun q => rfl
      clear hc hx
      generalize l.getD k (0, 0) = x at *
      obtain ⟨x1, x2⟩ := x
      simp only at a0 a1 q0 q1 qw
      have e1 := alloc_some c1 (Obj.cells #[Value.int IntKind.i64 x1, Value.int IntKind.i64 x2] 67)
      have e0 := alloc_some c0 (Obj.cells #[Value.int IntKind.i64 x1, Value.int IntKind.i64 x2] 67)
      have k0 : (W1.alloc (Obj.cells #[Value.int IntKind.i64 x1, Value.int IntKind.i64 x2] 67)).cell? ⟨W1.heap.size, 0, none⟩ = some (.int .i64 x1) := by simp
      have k1 : (W1.alloc (Obj.cells #[Value.int IntKind.i64 x1, Value.int IntKind.i64 x2] 67)).cell? ⟨W1.heap.size, 1, none⟩ = some (.int .i64 x2) := by simp
      have E1 := Lib.hid e1
      have E0 := Lib.hid e0
      have K0 := Lib.hid k0
      have K1 := Lib.hid k1
      have hk1 : (k : Int) + 1 ≤ (c : Int) := by omega
      have hk2 : (k : Int) + 1 ≤ (l.length : Int) := by omega
      have hk3 : (l.length : Int) ≤ (c : Int) := by omega
      have OBa := Lib.hid (((Below.refl _ W1).alloc (Nat.le_refl _) (Obj.cells #[Value.int IntKind.i64 x1, Value.int IntKind.i64 x2] 67)))
      clear k0 k1
      by_cases hck : c = k + 1
      · have hlk : l.length = k + 1 := by omega
        have OLK : Hid (l.length - (k + 1) = 0) := by show _ = _; omega
        have OLK2 := Lib.hid hlk
        subst hck
        clear hlk
        go_wp2
        refine wp_loop_rounds 1 ?_
        rw [rounds_succ]
        go_wp2
        go_roundw
        case rel =>
          refine ⟨k + 1, A3, n3, c3, by omega, by go_num, rfl, OB.out.trans (OBa.out.mono hs), ?_⟩
          rw [OSN.out, OLK.out]
          show SlOwn tripS _ _ _ _ (mAllS (genS L l k ++ []))
          rw [List.append_nil]
          exact OO.out.below OBa.out
        case measure => simp [intOf]; omega
      · go_wp2
        obtain ⟨N, hN⟩ : ∃ N, l.length - (k + 1) = N := ⟨_, rfl⟩
        rw [hN]
        have HN := Lib.hid hN
        clear hN
        go_loopw [3, 28] (fun v i w2 => ∃ (q : Nat) (A6 : Option Addr) (n6 c6 : Nat), q ≤ N ∧ i = .int .i64 q ∧ v = .slice A6 n6 c6 ∧ Below (W1.alloc (Obj.cells #[Value.int IntKind.i64 x1, Value.int IntKind.i64 x2] 67)).heap.size (W1.alloc (Obj.cells #[Value.int IntKind.i64 x1, Value.int IntKind.i64 x2] 67)) w2 ∧ SlOwn tripS w2 (w.heap.size + 1) 42 (.slice A6 n6 c6) (mAllS (genS L l k ++ rowS L l k q)))
          (fun _ i _ => N - (intOf i).toNat)
        case atStart => exact ⟨0, A3, n3, c3, Nat.zero_le _, rfl, rfl, Below.refl _ _, by show SlOwn tripS _ _ _ _ (mAllS (genS L l k ++ [])); rw [List.append_nil]; exact OO.out.below OBa.out⟩
        case round =>
          clear e0 e1
          obtain ⟨q, A6, n6, c6, hq, rfl, rfl, hb2, hown2⟩ := hrel
          obtain ⟨W2, rfl⟩ : ∃ W, W = wr := ⟨_, rfl⟩
          have OB2 := Lib.hid hb2
          have OSZ := Lib.hid hb2.size
          have OSY : Hid (w.heap.size + 1 ≤ W2.heap.size) := by have h1 := hb2.size; simp at h1; show _ ≤ _; omega
          have OO2' := Lib.hid hown2
          have i0' := Below.cell_some hb2 K0.out
          have i1' := Below.cell_some hb2 K1.out
          have HA2 := Lib.hid ((OAr.out.alloc (Obj.cells #[Value.int IntKind.i64 x1, Value.int IntKind.i64 x2] 67)).below hb2)
          have QL := Lib.hid (Below.cell_some hb2 E0.out)
          have QS := Lib.hid (Below.cell_some hb2 E1.out)
          have sW : W1.heap.size < W2.heap.size := by have := hb2.size; simp at this; omega
          have sw : w.heap.size < W2.heap.size := by omega
          clear hb2 hown2
          by_cases hqN : q < N
          · have hkq : k + 1 + q < l.length := by have := HN.out; omega
            obtain ⟨_, _, he, _, hc⟩ := HA2.out.at_ hkq
            simp only [Option.some.injEq, Addr.mk.injEq, and_true] at he
            obtain ⟨rfl, rfl⟩ := he
            obtain ⟨p0, p1⟩ := hc (k + 1 + q) hkq
            rw [Nat.add_mul (k + 1) q 2, ← Nat.add_assoc] at p0 p1
            clear hc
            have hx : l[k + 1 + q]? = some (l.getD (k + 1 + q) (0, 0)) := by rw [List.getD_eq_getElem?_getD, List.getElem?_eq_getElem hkq]; rfl
            obtain ⟨s0, s1, _, qy⟩ := good_ant HGG.out hx
            have hord := ORD.out q hkq
            have OSQ' := Lib.hid (ORW.out q)
            clear hx
            generalize l.getD (k + 1 + q) (0, 0) = y at *
            obtain ⟨y1, y2⟩ := y
            simp only at p0 p1 s0 s1 qy
            have HORD := Lib.hid hord
            clear hord
            rcases qw with rfl | rfl
            · -- the first one goes to the left
              have OSQ : Hid (rowS L l k (q + 1) = rowS L l k q) := by show _ = _; rw [OSQ'.out, if_pos (Or.inl (by decide)), List.append_nil]
              go_wp2
              go_roundw
              case rel =>
                have hbb : Below W2.heap.size W2 (W2.alloc (Obj.cells #[Value.int IntKind.i64 y1, Value.int IntKind.i64 y2] 67)) := (Below.refl _ _).alloc (Nat.le_refl _) _
                refine ⟨q + 1, A6, n6, c6, by omega, by go_num, rfl, OB2.out.trans (hbb.mono OSZ.out), ?_⟩
                rw [OSQ.out]
                exact OO2'.out.below hbb
              case measure => simp [intOf]; omega
            · rcases qy with rfl | rfl
              · have hxy : x1 < y1 := by have h := HORD.out; rw [antLt_iff] at h; simp only at h; omega
                have OSQ1 : Hid (rowS L l k (q + 1) = rowS L l k q ++ [mMk (x1, 1) (y1, -1) (cntS L ((y1 - x1) / 2) ((x1 + y1) / 2) l)]) := by show _ = _; rw [OSQ'.out, if_neg (by simp)]
                have hw1 : IntKind.i64.wrap (y1 - x1) = y1 - x1 := IntWalk.i64_in _ (by omega)
                have hw2 : IntKind.i64.wrap (x1 + y1) = x1 + y1 := IntWalk.i64_in _ (by omega)
                have hq0 : (0 : Int) ≤ y1 - x1 := by omega
                have hq1 : (0 : Int) ≤ x1 + y1 := by omega
                obtain ⟨T, hT⟩ : ∃ T, (y1 - x1) / 2 = T := ⟨_, rfl⟩
                obtain ⟨P, hP⟩ : ∃ P, (x1 + y1) / 2 = P := ⟨_, rfl⟩
                have hT0 : 0 ≤ T := by omega
                have hT1 : T ≤ 1000 := by omega
                have hP0 : 0 ≤ P := by omega
                have hP1 : P ≤ 1000 := by omega
                have OSQ : Hid (rowS L l k (q + 1) = rowS L l k q ++ [(T, P, ((cntS L T P l : Nat) : Int))]) := by show _ = _; rw [OSQ1.out]; unfold mMk; simp only; rw [hT, hP]
                obtain ⟨m, hm⟩ : ∃ m, mAllS (genS L l k ++ rowS L l k q) = m := ⟨_, rfl⟩
                have OM := Lib.hid hm
                have hlen : m.length ≤ 300 := by
                  rw [← hm]
                  have h1 : (mAllS (genS L l k ++ rowS L l k q)).length = _ := (mAllS_perm _).length_eq
                  rw [h1, List.length_append]
                  have := OLN.out
                  have := rowS_len L l k q
                  omega
                have OO2 : Hid (SlOwn tripS W2 (w.heap.size + 1) 42 (.slice A6 n6 c6) m) := by rw [← hm]; exact OO2'
                have hn6 := own_len OO2.out
                subst hn6
                have hcap6 : m.length ≤ c6 := own_cap OO2.out
                have hn : (m.length : Int) ≤ 65536 := by omega
                clear hm
                have u1 := alloc_some (alloc_some QS.out (Obj.cells #[Value.int IntKind.i64 y1, Value.int IntKind.i64 (-1)] 67)) (Obj.cells #[Value.int IntKind.i64 T, Value.int IntKind.i64 P, Value.int IntKind.i64 0] 42)
                have u0 := alloc_some (alloc_some QL.out (Obj.cells #[Value.int IntKind.i64 y1, Value.int IntKind.i64 (-1)] 67)) (Obj.cells #[Value.int IntKind.i64 T, Value.int IntKind.i64 P, Value.int IntKind.i64 0] 42)
                go_wp2
                clear u0 u1
                go_loopw [56] (fun i w3 => ∃ j : Nat, j ≤ l.length ∧ i = .int .i64 j ∧ Below (W2.heap.size + 1) (W2.alloc (Obj.cells #[Value.int IntKind.i64 y1, Value.int IntKind.i64 (-1)] 67)) w3 ∧ W2.heap.size + 1 < w3.heap.size ∧ w3.cell? ⟨W2.heap.size + 1, 0, none⟩ = some (.int .i64 T) ∧ w3.cell? ⟨W2.heap.size + 1, 1, none⟩ = some (.int .i64 P) ∧ w3.cell? ⟨W2.heap.size + 1, 2, none⟩ = some (.int .i64 ((cntS L T P (l.take j) : Nat) : Int)) ∧ (∀ o, w3.frozen? ⟨W2.heap.size + 1, o, none⟩ = false))
                  (fun i _ => l.length - (intOf i).toNat)
                case atStart => exact ⟨0, Nat.zero_le _, rfl, (Below.refl _ _).alloc (by simp) _, by simp, by simp, by simp, by simp [cntS], fun o => by simp⟩
                case round =>
                  obtain ⟨j, hj, rfl, hb3, hz3, g0, g1, g2, gf⟩ := hrel
                  obtain ⟨W3, rfl⟩ : ∃ W, W = wr := ⟨_, rfl⟩
                  have HB3 := Lib.hid hb3
                  have HF3 := Lib.hid gf
                  have hb23 : Below W2.heap.size W2 W3 := ((Below.refl _ _).alloc (Nat.le_refl _) _).trans (hb3.mono (Nat.le_succ _))
                  have HB23 := Lib.hid hb23
                  have r0 := Below.cell_some hb23 QL.out
                  have r1 := Below.cell_some hb23 QS.out
                  have HA3 := Lib.hid (HA2.out.below hb23)
                  clear hb23 hb3 gf
                  by_cases hjl : j < l.length
                  · obtain ⟨_, _, he, _, hc⟩ := HA3.out.at_ hjl
                    simp only [Option.some.injEq, Addr.mk.injEq, and_true] at he
                    obtain ⟨rfl, rfl⟩ := he
                    obtain ⟨a0, a1⟩ := hc j hjl
                    clear hc
                    have hx : l[j]? = some (l.getD j (0, 0)) := by rw [List.getD_eq_getElem?_getD, List.getElem?_eq_getElem hjl]; rfl
                    obtain ⟨t0, t1, _, qz⟩ := good_ant HGG.out hx
                    have HCN := Lib.hid (cntS_snoc L T P l j _ hx)
                    have hnc := cntS_le L T P l j
                    clear hx
                    generalize l.getD j (0, 0) = z at *
                    obtain ⟨z1, z2⟩ := z
                    simp only at a0 a1 t0 t1 qz
                    generalize cntS L T P (l.take j) = nc at *
                    have HEND := Lib.hid (fun w => mEnd_b L z1 z2 w t0 (by omega) (by omega) hL1)
                    obtain ⟨en, hen0⟩ : ∃ en, mEnd L (z1, z2) = en := ⟨_, rfl⟩
                    have HEN := Lib.hid hen0
                    rw [hen0] at HEND
                    clear hen0
                    have f0 := Ext.cell (p := ⟨W3.heap.size, 0, none⟩) (v := .int .i64 z1) (W := W3.alloc (Obj.cells #[Value.int IntKind.i64 z1, Value.int IntKind.i64 z2] 67)) (by simp)
                    have f1 := Ext.cell (p := ⟨W3.heap.size, 1, none⟩) (v := .int .i64 z2) (W := W3.alloc (Obj.cells #[Value.int IntKind.i64 z1, Value.int IntKind.i64 z2] 67)) (by simp)
                    have fL := Ext.old (o := (Obj.cells #[Value.int IntKind.i64 z1, Value.int IntKind.i64 z2] 67)) r0
                    have fT := Ext.old (o := (Obj.cells #[Value.int IntKind.i64 z1, Value.int IntKind.i64 z2] 67)) g0
                    have fP := Ext.old (o := (Obj.cells #[Value.int IntKind.i64 z1, Value.int IntKind.i64 z2] 67)) g1
                    have fN := Ext.old (o := (Obj.cells #[Value.int IntKind.i64 z1, Value.int IntKind.i64 z2] 67)) g2
                    have fF : ∀ x : Ext (W3.alloc (Obj.cells #[Value.int IntKind.i64 z1, Value.int IntKind.i64 z2] 67)), x.w.frozen? ⟨W2.heap.size + 1, 2, none⟩ = false := fun x => (x.h.frozen (p := ⟨W2.heap.size + 1, 2, none⟩) (by simp; omega)).trans ((((Below.refl _ W3).alloc (Nat.le_refl _) _).frozen (p := ⟨W2.heap.size + 1, 2, none⟩) hz3).trans (HF3.out 2))
                    by_cases hen : en ≤ T
                    · rcases qz with rfl | rfl
                      · have HLB : Hid (leftB L T P (z1, -1) = true) := by show _ = _; unfold leftB; rw [HEN.out, if_pos hen]; rfl
                        have hgone : decide (en ≤ T) = true := decide_eq_true hen
                        go_wp2
                        refine wp_region_ext (by kernel_rfl) (by kernel_rfl) ?_
                        repeat (first | go_big_quiet_skip | (go_big_quiet_want; go_big_quiet_op; first | go_big_quiet_on | (apply Exists.intro; refine ⟨fun _ => ?_, ?_⟩; (go_at_call 81; exact Ext.call (HEND.out _)); go_big_quiet_on)))
                        refine wpQuiet_nil ?_
                        rintro _ ⟨x, rfl⟩
                        have xs := x.h.size
                        go_wp2
                        go_roundw
                        case rel =>
                          have hbx : Below (W2.heap.size + 1) W3 x.w := (((Below.refl _ W3).alloc (by omega) _).trans (x.h.mono (by simp; omega)))
                          refine ⟨j + 1, by omega, by go_num, (HB3.out.trans hbx).setCell (by simp) _, by (simp at xs ⊢; omega), by simp [go_sem, fT x], by simp [go_sem, fP x], ?_, fun o => by rw [World.frozen?_setCell]; exact (x.h.frozen (p := ⟨W2.heap.size + 1, o, none⟩) (by simp; omega)).trans ((((Below.refl _ W3).alloc (Nat.le_refl _) _).frozen (p := ⟨W2.heap.size + 1, o, none⟩) hz3).trans (HF3.out o))⟩
                          rw [HCN.out, HLB.out, if_pos rfl]
                          simp [go_sem, fN x]
                        case measure => simp [intOf]; omega
                      · have HLB : Hid (leftB L T P (z1, 1) = false) := by show _ = _; unfold leftB; rw [HEN.out, if_pos hen]; rfl
                        have hgone : decide (en ≤ T) = true := decide_eq_true hen
                        go_wp2
                        refine wp_region_ext (by kernel_rfl) (by kernel_rfl) ?_
                        repeat (first | go_big_quiet_skip | (go_big_quiet_want; go_big_quiet_op; first | go_big_quiet_on | (apply Exists.intro; refine ⟨fun _ => ?_, ?_⟩; (go_at_call 81; exact Ext.call (HEND.out _)); go_big_quiet_on)))
                        refine wpQuiet_nil ?_
                        rintro _ ⟨x, rfl⟩
                        have xs := x.h.size
                        go_wp2
                        go_roundw
                        case rel =>
                          have hbx : Below (W2.heap.size + 1) W3 x.w := (((Below.refl _ W3).alloc (by omega) _).trans (x.h.mono (by simp; omega)))
                          refine ⟨j + 1, by omega, by go_num, HB3.out.trans hbx, by (simp at xs ⊢; omega), fT x, fP x, ?_, fun o => (x.h.frozen (p := ⟨W2.heap.size + 1, o, none⟩) (by simp; omega)).trans ((((Below.refl _ W3).alloc (Nat.le_refl _) _).frozen (p := ⟨W2.heap.size + 1, o, none⟩) hz3).trans (HF3.out o))⟩
                          rw [HCN.out, HLB.out, if_neg (by decide)]
                          exact fN x
                        case measure => simp [intOf]; omega
                    · have hw5 : IntKind.i64.wrap (z2 * T) = z2 * T := IntWalk.i64_in _ (by rcases qz with rfl | rfl <;> omega)
                      obtain ⟨u, hu⟩ : ∃ u, z1 + z2 * T = u := ⟨_, rfl⟩
                      have hw6 : IntKind.i64.wrap (z1 + z2 * T) = u := by rw [← hu]; exact IntWalk.i64_in _ (by rcases qz with rfl | rfl <;> omega)
                      by_cases hup : u < P
                      · have HLB : Hid (leftB L T P (z1, z2) = true) := by show _ = _; unfold leftB; rw [HEN.out, if_neg hen]; simp only; rw [hu]; exact decide_eq_true hup
                        have hup2 : decide (u < P) = true := decide_eq_true hup
                        clear hu
                        have hgone : decide (en ≤ T) = false := decide_eq_false hen
                        go_wp2
                        refine wp_region_ext (by kernel_rfl) (by kernel_rfl) ?_
                        repeat (first | go_big_quiet_skip | (go_big_quiet_want; go_big_quiet_op; first | go_big_quiet_on | (apply Exists.intro; refine ⟨fun _ => ?_, ?_⟩; (go_at_call 81; exact Ext.call (HEND.out _)); go_big_quiet_on)))
                        refine wpQuiet_nil ?_
                        rintro _ ⟨x, rfl⟩
                        have xs := x.h.size
                        go_wp2
                        go_roundw
                        case rel =>
                          have hbx : Below (W2.heap.size + 1) W3 x.w := (((Below.refl _ W3).alloc (by omega) _).trans (x.h.mono (by simp; omega)))
                          refine ⟨j + 1, by omega, by go_num, (HB3.out.trans hbx).setCell (by simp) _, by (simp at xs ⊢; omega), by simp [go_sem, fT x], by simp [go_sem, fP x], ?_, fun o => by rw [World.frozen?_setCell]; exact (x.h.frozen (p := ⟨W2.heap.size + 1, o, none⟩) (by simp; omega)).trans ((((Below.refl _ W3).alloc (Nat.le_refl _) _).frozen (p := ⟨W2.heap.size + 1, o, none⟩) hz3).trans (HF3.out o))⟩
                          rw [HCN.out, HLB.out, if_pos rfl]
                          simp [go_sem, fN x]
                        case measure => simp [intOf]; omega
                      · have HLB : Hid (leftB L T P (z1, z2) = false) := by show _ = _; unfold leftB; rw [HEN.out, if_neg hen]; simp only; rw [hu]; exact decide_eq_false hup
                        have hup2 : decide (u < P) = false := decide_eq_false hup
                        clear hu
                        have hgone : decide (en ≤ T) = false := decide_eq_false hen
                        go_wp2
                        refine wp_region_ext (by kernel_rfl) (by kernel_rfl) ?_
                        repeat (first | go_big_quiet_skip | (go_big_quiet_want; go_big_quiet_op; first | go_big_quiet_on | (apply Exists.intro; refine ⟨fun _ => ?_, ?_⟩; (go_at_call 81; exact Ext.call (HEND.out _)); go_big_quiet_on)))
                        refine wpQuiet_nil ?_
                        rintro _ ⟨x, rfl⟩
                        have xs := x.h.size
                        go_wp2
                        go_roundw
                        case rel =>
                          have hbx : Below (W2.heap.size + 1) W3 x.w := (((Below.refl _ W3).alloc (by omega) _).trans (x.h.mono (by simp; omega)))
                          refine ⟨j + 1, by omega, by go_num, HB3.out.trans hbx, by (simp at xs ⊢; omega), fT x, fP x, ?_, fun o => (x.h.frozen (p := ⟨W2.heap.size + 1, o, none⟩) (by simp; omega)).trans ((((Below.refl _ W3).alloc (Nat.le_refl _) _).frozen (p := ⟨W2.heap.size + 1, o, none⟩) hz3).trans (HF3.out o))⟩
                          rw [HCN.out, HLB.out, if_neg (by decide)]
                          exact fN x
                        case measure => simp [intOf]; omega
                  · obtain rfl : j = l.length := by omega
                    have HE : Hid (l.take l.length = l) := List.take_length
                    obtain ⟨n, hn9⟩ : ∃ n : Int, ((cntS L T P (l.take l.length) : Nat) : Int) = n := ⟨_, rfl⟩
                    have OSN2 : Hid (gPut mLt (0, 0, 0) m (T, P, n) = mAllS (genS L l k ++ rowS L l k (q + 1))) := by
                      show _ = _
                      rw [← hn9, HE.out, OSQ.out, ← List.append_assoc]
                      unfold mAllS
                      rw [gAll_snoc]
                      show _ = gPut mLt (0, 0, 0) (mAllS _) _
                      rw [OM.out]
                    rw [hn9] at g2
                    clear hn9
                    have Z0 := Lib.hid g0
                    have Z1 := Lib.hid g1
                    have Z2 := Lib.hid g2
                    have HZ3 := Lib.hid hz3
                    have HM3 : Hid (SlAt tripS W3 A6 m) := OO2.out.sl.below HB23.out
                    have OB3 := Lib.hid (OB2.out.trans (HB23.out.mono OSZ.out))
                    have OS3 : Hid ((W1.alloc (Obj.cells #[Value.int IntKind.i64 x1, Value.int IntKind.i64 1] 67)).heap.size ≤ W3.heap.size) := Nat.le_trans OSZ.out HB23.out.size
                    have OS4 : Hid (w.heap.size + 1 ≤ W3.heap.size) := Nat.le_trans OSY.out HB23.out.size
                    clear g0 g1 g2 hz3 r0 r1
                    go_wp2
                    go_loopw [12] (fun i w4 => ∃ kk : Nat, kk ≤ m.length ∧ i = .int .i64 kk ∧ gK mLt (0, 0, 0) m (T, P, n) kk = gK mLt (0, 0, 0) m (T, P, n) m.length ∧ Below W3.heap.size W3 w4) (fun i _ => (intOf i).toNat)
                    case atStart => exact ⟨m.length, Nat.le_refl _, rfl, rfl, Below.refl _ _⟩
                    case round =>
                      obtain ⟨kk, hkk, rfl, hp, hb4⟩ := hrel
                      obtain ⟨W4, rfl⟩ : ∃ W, W = wr := ⟨_, rfl⟩
                      have z0 := Below.cell_some hb4 Z0.out
                      have z1 := Below.cell_some hb4 Z1.out
                      have z2 := Below.cell_some hb4 Z2.out
                      have HB4 := Lib.hid hb4
                      clear hb4
                      cases kk with
                      | zero =>
                        have HP := Lib.hid hp
                        clear hp
                        have hd0 : decide ((0 : Int) < 0) = false := by decide
                        go_wp2
                        go_quiet (fail)
                        go_wp2
                        cases A6 with
                        | none =>
                          have HL : Hid (m = []) := by
                            rcases HM3.out with h | ⟨_, _, h, _⟩
                            · exact h
                            · cases h
                          have HKE : Hid (0 = gK mLt (0, 0, 0) m (T, P, n) m.length) := HP.out
                          obtain ⟨X, hX⟩ : ∃ X, X = W4.drewN nq := ⟨_, rfl⟩
                          have HBX : Hid (Below W3.heap.size W3 X) := by rw [hX]; exact ⟨HB4.out.os, HB4.out.tape, HB4.out.output, HB4.out.size, HB4.out.block⟩
                          have HAX : Hid (SlAt tripS X none m) := HM3.out.below HBX.out
                          have x0 : X.cell? ⟨W2.heap.size + 1, 0, none⟩ = some (.int .i64 T) := Below.cell_some HBX.out Z0.out
                          have x1 : X.cell? ⟨W2.heap.size + 1, 1, none⟩ = some (.int .i64 P) := Below.cell_some HBX.out Z1.out
                          have x2 : X.cell? ⟨W2.heap.size + 1, 2, none⟩ = some (.int .i64 n) := Below.cell_some HBX.out Z2.out
                          have hsX : W2.heap.size + 1 < X.heap.size := Nat.lt_of_lt_of_le HZ3.out HBX.out.size
                          have h3X : W3.heap.size ≤ X.heap.size := HBX.out.size
                          rw [← hX]
                          clear hX z0 z1 z2
                          have p0 : X.drew.cell? ⟨W2.heap.size + 1, 0, none⟩ = some (.int .i64 T) := x0
                          have p1 : X.drew.cell? ⟨W2.heap.size + 1, 1, none⟩ = some (.int .i64 P) := x1
                          have p2 : X.drew.cell? ⟨W2.heap.size + 1, 2, none⟩ = some (.int .i64 n) := x2
                          have D0 : (X.alloc (Obj.cells #[] 42)).drew.cell? ⟨W2.heap.size + 1, 0, none⟩ = some (.int .i64 T) := alloc_some x0 _
                          have D1 : (X.alloc (Obj.cells #[] 42)).drew.cell? ⟨W2.heap.size + 1, 1, none⟩ = some (.int .i64 P) := alloc_some x1 _
                          have D2 : (X.alloc (Obj.cells #[] 42)).drew.cell? ⟨W2.heap.size + 1, 2, none⟩ = some (.int .i64 n) := alloc_some x2 _
                          have F0 : (X.alloc (Obj.cells #[.int .i64 T, .int .i64 P, .int .i64 n] 42)).drew.cell? ⟨W2.heap.size + 1, 0, none⟩ = some (.int .i64 T) := alloc_some x0 _
                          have F1 : (X.alloc (Obj.cells #[.int .i64 T, .int .i64 P, .int .i64 n] 42)).drew.cell? ⟨W2.heap.size + 1, 1, none⟩ = some (.int .i64 P) := alloc_some x1 _
                          have F2 : (X.alloc (Obj.cells #[.int .i64 T, .int .i64 P, .int .i64 n] 42)).drew.cell? ⟨W2.heap.size + 1, 2, none⟩ = some (.int .i64 n) := alloc_some x2 _
                          have G0 : ((X.alloc (Obj.cells #[] 42)).alloc (Obj.cells #[.int .i64 T, .int .i64 P, .int .i64 n] 42)).drew.cell? ⟨W2.heap.size + 1, 0, none⟩ = some (.int .i64 T) := alloc_some (alloc_some x0 _) _
                          have G1 : ((X.alloc (Obj.cells #[] 42)).alloc (Obj.cells #[.int .i64 T, .int .i64 P, .int .i64 n] 42)).drew.cell? ⟨W2.heap.size + 1, 1, none⟩ = some (.int .i64 P) := alloc_some (alloc_some x1 _) _
                          have G2 : ((X.alloc (Obj.cells #[] 42)).alloc (Obj.cells #[.int .i64 T, .int .i64 P, .int .i64 n] 42)).drew.cell? ⟨W2.heap.size + 1, 2, none⟩ = some (.int .i64 n) := alloc_some (alloc_some x2 _) _
                          have J0 : ((X.alloc (Obj.cells #[.int .i64 T, .int .i64 P, .int .i64 n] 42)).alloc (Obj.cells #[] 42)).drew.cell? ⟨W2.heap.size + 1, 0, none⟩ = some (.int .i64 T) := alloc_some (alloc_some x0 _) _
                          have J1 : ((X.alloc (Obj.cells #[.int .i64 T, .int .i64 P, .int .i64 n] 42)).alloc (Obj.cells #[] 42)).drew.cell? ⟨W2.heap.size + 1, 1, none⟩ = some (.int .i64 P) := alloc_some (alloc_some x1 _) _
                          have J2 : ((X.alloc (Obj.cells #[.int .i64 T, .int .i64 P, .int .i64 n] 42)).alloc (Obj.cells #[] 42)).drew.cell? ⟨W2.heap.size + 1, 2, none⟩ = some (.int .i64 n) := alloc_some (alloc_some x2 _) _
                          have BA1 : Hid (Below X.heap.size X (X.alloc (Obj.cells #[] 42)).drew) := (((Below.refl _ X).alloc (Nat.le_refl _) _).drew)
                          have BA2 : Hid (Below X.heap.size X ((X.alloc (Obj.cells #[] 42)).alloc (Obj.cells #[.int .i64 T, .int .i64 P, .int .i64 n] 42)).drew) := ((((Below.refl _ X).alloc (Nat.le_refl _) _).alloc (by simp) _).drew)
                          have BB : Hid (Below X.heap.size X ((X.alloc (Obj.cells #[.int .i64 T, .int .i64 P, .int .i64 n] 42)).alloc (Obj.cells #[] 42)).drew) := ((((Below.refl _ X).alloc (Nat.le_refl _) _).alloc (by simp) _).drew)
                          have OA1 : Hid (SlOwn tripS (X.alloc (Obj.cells #[] 42)).drew X.heap.size 42 (.slice (some ⟨X.heap.size, 0, none⟩) 0 0) []) := own_empty tripS X _
                          have OA2 : Hid (SlOwn tripS ((X.alloc (Obj.cells #[] 42)).alloc (Obj.cells #[.int .i64 T, .int .i64 P, .int .i64 n] 42)).drew X.heap.size 42 (.slice (some ⟨X.heap.size, 0, none⟩) 0 0) []) := (own_empty tripS X 42).below (((Below.refl _ _).alloc (Nat.le_refl _) _).drew)
                          have OB2 : Hid (SlOwn tripS ((X.alloc (Obj.cells #[.int .i64 T, .int .i64 P, .int .i64 n] 42)).alloc (Obj.cells #[] 42)).drew (X.heap.size + 1) 42 (.slice (some ⟨X.heap.size + 1, 0, none⟩) 0 0) []) := own_empty_n tripS (X.alloc (Obj.cells #[.int .i64 T, .int .i64 P, .int .i64 n] 42)) _ (by simp)
                          have LA1 : Hid (SlAt tripS (X.alloc (Obj.cells #[] 42)).drew none (m.take (0))) := (HAX.out.below BA1.out).take _
                          have LA2 : Hid (SlAt tripS ((X.alloc (Obj.cells #[] 42)).alloc (Obj.cells #[.int .i64 T, .int .i64 P, .int .i64 n] 42)).drew none (m.take (0))) := (HAX.out.below BA2.out).take _
                          have LB : Hid (SlAt tripS ((X.alloc (Obj.cells #[.int .i64 T, .int .i64 P, .int .i64 n] 42)).alloc (Obj.cells #[] 42)).drew none (m.take (0))) := (HAX.out.below BB.out).take _
                          have NK : Hid (0 = (m.take (0)).length) := by show _ = _; simp only [List.length_take]; omega
                          have LE1 : Hid (([] : List (Int × Int × Int)).length + (m.take (0)).length ≤ 1048576) := by show _ ≤ _; simp only [List.length_take, List.length_nil]; omega
                          have LE2 : Hid (([] ++ m.take (0)).length + [(T, P, n)].length ≤ 1048576) := by show _ ≤ _; simp only [List.length_append, List.length_take, List.length_nil, List.length_cons]; omega
                          have EA2 : Hid (((X.alloc (Obj.cells #[] 42)).alloc (Obj.cells #[.int .i64 T, .int .i64 P, .int .i64 n] 42)).drew.heap[X.heap.size + 1]? = some (Obj.cells #[.int .i64 T, .int .i64 P, .int .i64 n] 42)) := heap_new (w := X.alloc (Obj.cells #[] 42)) (by simp)
                          have EB : Hid (((X.alloc (Obj.cells #[.int .i64 T, .int .i64 P, .int .i64 n] 42)).alloc (Obj.cells #[] 42)).drew.heap[X.heap.size]? = some (Obj.cells #[.int .i64 T, .int .i64 P, .int .i64 n] 42)) := (((Below.refl (X.heap.size + 1) (X.alloc (Obj.cells #[.int .i64 T, .int .i64 P, .int .i64 n] 42))).alloc (by simp) (Obj.cells #[] 42)).block X.heap.size (by omega)).trans (heap_new (w := X) rfl)
                          go_region_held3 (fun w' => w'.cell? ⟨W2.heap.size + 1, 0, none⟩ = some (.int .i64 T) ∧ w'.cell? ⟨W2.heap.size + 1, 1, none⟩ = some (.int .i64 P) ∧ w'.cell? ⟨W2.heap.size + 1, 2, none⟩ = some (.int .i64 n))
                            (first | exact ⟨c0'', c1'', c2''⟩ | exact ⟨e0', e1', e2'⟩ | exact ⟨c0', c1', c2'⟩ | exact ⟨D0, D1, D2⟩ | exact ⟨F0, F1, F2⟩ | exact ⟨G0, G1, G2⟩ | exact ⟨J0, J1, J2⟩ | go_keep)
                            (first
                              | (refine step_append_slsv tripS _ rfl _ _ 26 rfl _ 42 i0 _ 24 Try.underlying26 hi hz0 hz1 hz2 rfl (by decide) _ ([] ++ m.take (0)) rfl HO5.out _ 1 1 [(T, P, n)] rfl rfl HS5.out LE2.out HZ5.out ?_; intro A6 n6 k6 w6 hn6 ho6 hb6 hg6; have HN6 := Lib.hid hn6; have HO6 : Hid (SlOwn tripS w6 X.heap.size 42 (.slice A6 n6 k6) ([] ++ m.take (0) ++ [(T, P, n)])) := ho6.base HZ5'.out; have HBQ := Lib.hid (HQ5.out.trans (hb6.mono HY5.out)); have c0'' := (hb6.cell (p := ⟨W2.heap.size + 1, 0, none⟩) (Nat.lt_of_lt_of_le hsX HZ5'.out)).trans e0'; have c1'' := (hb6.cell (p := ⟨W2.heap.size + 1, 1, none⟩) (Nat.lt_of_lt_of_le hsX HZ5'.out)).trans e1'; have c2'' := (hb6.cell (p := ⟨W2.heap.size + 1, 2, none⟩) (Nat.lt_of_lt_of_le hsX HZ5'.out)).trans e2'; clear hn6 ho6 hb6 hg6)
                              | (refine step_append_slsv tripS _ rfl _ _ 26 rfl X.heap.size 42 i0 _ 24 Try.underlying26 hi hz0 hz1 hz2 rfl (by decide) (.slice (some ⟨X.heap.size, 0, none⟩) 0 0) [] rfl OA1.out _ _ _ (m.take (0)) rfl NK.out LA1.out LE1.out (by simp) ?_; intro A5 n5 k5 w5 hn5 ho5 hb5 hg5; have c0' := (hb5.cell (p := ⟨W2.heap.size + 1, 0, none⟩) hsX).trans D0; have c1' := (hb5.cell (p := ⟨W2.heap.size + 1, 1, none⟩) hsX).trans D1; have c2' := (hb5.cell (p := ⟨W2.heap.size + 1, 2, none⟩) hsX).trans D2; have e0' := alloc_some c0' (Obj.cells #[.int .i64 T, .int .i64 P, .int .i64 n] 42); have e1' := alloc_some c1' (Obj.cells #[.int .i64 T, .int .i64 P, .int .i64 n] 42); have e2' := alloc_some c2' (Obj.cells #[.int .i64 T, .int .i64 P, .int .i64 n] 42); have HO5 := Lib.hid (ho5.below ((Below.refl _ _).alloc (Nat.le_refl _) (Obj.cells #[.int .i64 T, .int .i64 P, .int .i64 n] 42))); have HS5 := Lib.hid (slAt_trip1 (x := (T, P, n)) (heap_new (w := w5) (o := (Obj.cells #[.int .i64 T, .int .i64 P, .int .i64 n] 42)) rfl)); have HZ5 : Hid (X.heap.size ≤ (w5.alloc (Obj.cells #[.int .i64 T, .int .i64 P, .int .i64 n] 42)).heap.size) := Nat.le_trans (BA1.out.trans hb5).size ((Below.refl 0 w5).alloc (Nat.zero_le _) _).size; have HZ5' : Hid (X.heap.size ≤ X.heap.size) := Nat.le_refl _; have HQ5 := Lib.hid ((BA1.out.trans hb5).alloc (BA1.out.trans hb5).size (Obj.cells #[.int .i64 T, .int .i64 P, .int .i64 n] 42)); have HY5 : Hid (X.heap.size ≤ X.heap.size) := Nat.le_refl _; clear hn5 ho5 hb5 hg5)
                              | (refine step_append_slsv tripS _ rfl _ _ 26 rfl X.heap.size 42 i0 _ 24 Try.underlying26 hi hz0 hz1 hz2 rfl (by decide) (.slice (some ⟨X.heap.size, 0, none⟩) 0 0) [] rfl OA2.out _ _ _ (m.take (0)) rfl NK.out LA2.out LE1.out (by simp; omega) ?_; intro A5 n5 k5 w5 hn5 ho5 hb5 hg5; have e0' := (hb5.cell (p := ⟨W2.heap.size + 1, 0, none⟩) hsX).trans G0; have e1' := (hb5.cell (p := ⟨W2.heap.size + 1, 1, none⟩) hsX).trans G1; have e2' := (hb5.cell (p := ⟨W2.heap.size + 1, 2, none⟩) hsX).trans G2; have HO5 := Lib.hid ho5; have HS5 := Lib.hid (slAt_trip1 (x := (T, P, n)) ((hg5.block (X.heap.size + 1) (Array.getElem?_eq_some_iff.1 EA2.out).1 (by simp [Value.ownBlock])).trans EA2.out)); have HZ5 : Hid (X.heap.size ≤ w5.heap.size) := (BA2.out.trans hb5).size; have HZ5' : Hid (X.heap.size ≤ X.heap.size) := Nat.le_refl _; have HQ5 := Lib.hid (BA2.out.trans hb5); have HY5 : Hid (X.heap.size ≤ X.heap.size) := Nat.le_refl _; clear hn5 ho5 hb5 hg5)
                              | (refine step_append_slsv tripS _ rfl _ _ 26 rfl (X.heap.size + 1) 42 i0 _ 24 Try.underlying26 hi hz0 hz1 hz2 rfl (by decide) (.slice (some ⟨X.heap.size + 1, 0, none⟩) 0 0) [] rfl OB2.out _ _ _ (m.take (0)) rfl NK.out LB.out LE1.out (by simp) ?_; intro A5 n5 k5 w5 hn5 ho5 hb5 hg5; have e0' := (hb5.cell (p := ⟨W2.heap.size + 1, 0, none⟩) (Nat.lt_succ_of_lt hsX)).trans J0; have e1' := (hb5.cell (p := ⟨W2.heap.size + 1, 1, none⟩) (Nat.lt_succ_of_lt hsX)).trans J1; have e2' := (hb5.cell (p := ⟨W2.heap.size + 1, 2, none⟩) (Nat.lt_succ_of_lt hsX)).trans J2; have HO5 := Lib.hid ho5; have HS5 := Lib.hid (slAt_trip1 (x := (T, P, n)) ((hb5.block X.heap.size (Nat.lt_succ_self _)).trans EB.out)); have HZ5 : Hid (X.heap.size + 1 ≤ w5.heap.size) := Nat.le_trans (by simp) hb5.size; have HZ5' : Hid (X.heap.size ≤ X.heap.size + 1) := Nat.le_succ _; have HQ5 := Lib.hid (BB.out.trans (hb5.mono (Nat.le_succ _))); have HY5 : Hid (X.heap.size ≤ X.heap.size + 1) := Nat.le_succ _; clear hn5 ho5 hb5 hg5))
                          all_goals (
                            have HA6 : Hid (SlAt tripS w6 none m) := HAX.out.below HBQ.out
                            have LE6 : Hid (([] ++ m.take (0) ++ [(T, P, n)]).length + (m.drop (0)).length ≤ 1048576) := by show _ ≤ _; simp only [List.length_append, List.length_take, List.length_drop, List.length_nil, List.length_cons]; omega
                            have ND : Hid (m.length - (0) = (m.drop (0)).length) := by show _ = _; rw [List.length_drop]
                            have HZ6 : Hid (X.heap.size ≤ w6.heap.size) := HBQ.out.size
                            go_wp2_with (at_builtin; refine wpList_append_slsv tripS _ rfl _ _ 26 rfl X.heap.size 42 i0 _ 24 Try.underlying26 hi hz0 hz1 hz2 rfl (by decide) _ ([] ++ m.take (0) ++ [(T, P, n)]) rfl HO6.out _ _ _ (m.drop (0)) rfl ND.out (.inl (by rw [HL.out]; rfl)) LE6.out HZ6.out ?_; intro A7 n7 k7 w7 hn7 ho7 hb7; have HO7 := Lib.hid ho7; have HB7 := Lib.hid (HBX.out.trans ((HBQ.out.trans hb7).mono h3X)); clear hn7 ho7 hb7)
                            all_goals (
                              go_roundw
                              case rel =>
                                refine ⟨q + 1, A7, n7, k7, by omega, by go_num, rfl, OB3.out.trans (HB7.out.mono OS3.out), ?_⟩
                                have := HO7.out
                                rw [take_drop_gPut HKE.out, OSN2.out] at this
                                exact this.base (Nat.le_trans OS4.out h3X)
                              case measure => (simp [intOf]; omega)))
                        | some ad =>
                          obtain ⟨b, off, sp⟩ := ad
                          by_cases hl : m = []
                          · have HL := Lib.hid hl
                            clear hl
                            have HKE : Hid (0 = gK mLt (0, 0, 0) m (T, P, n) m.length) := HP.out
                            obtain ⟨X, hX⟩ : ∃ X, X = W4.drewN nq := ⟨_, rfl⟩
                            have HBX : Hid (Below W3.heap.size W3 X) := by rw [hX]; exact ⟨HB4.out.os, HB4.out.tape, HB4.out.output, HB4.out.size, HB4.out.block⟩
                            have HAX : Hid (SlAt tripS X (some ⟨b, off, sp⟩) m) := HM3.out.below HBX.out
                            have x0 : X.cell? ⟨W2.heap.size + 1, 0, none⟩ = some (.int .i64 T) := Below.cell_some HBX.out Z0.out
                            have x1 : X.cell? ⟨W2.heap.size + 1, 1, none⟩ = some (.int .i64 P) := Below.cell_some HBX.out Z1.out
                            have x2 : X.cell? ⟨W2.heap.size + 1, 2, none⟩ = some (.int .i64 n) := Below.cell_some HBX.out Z2.out
                            have hsX : W2.heap.size + 1 < X.heap.size := Nat.lt_of_lt_of_le HZ3.out HBX.out.size
                            have h3X : W3.heap.size ≤ X.heap.size := HBX.out.size
                            rw [← hX]
                            clear hX z0 z1 z2
                            have p0 : X.drew.cell? ⟨W2.heap.size + 1, 0, none⟩ = some (.int .i64 T) := x0
                            have p1 : X.drew.cell? ⟨W2.heap.size + 1, 1, none⟩ = some (.int .i64 P) := x1
                            have p2 : X.drew.cell? ⟨W2.heap.size + 1, 2, none⟩ = some (.int .i64 n) := x2
                            have D0 : (X.alloc (Obj.cells #[] 42)).drew.cell? ⟨W2.heap.size + 1, 0, none⟩ = some (.int .i64 T) := alloc_some x0 _
                            have D1 : (X.alloc (Obj.cells #[] 42)).drew.cell? ⟨W2.heap.size + 1, 1, none⟩ = some (.int .i64 P) := alloc_some x1 _
                            have D2 : (X.alloc (Obj.cells #[] 42)).drew.cell? ⟨W2.heap.size + 1, 2, none⟩ = some (.int .i64 n) := alloc_some x2 _
                            have F0 : (X.alloc (Obj.cells #[.int .i64 T, .int .i64 P, .int .i64 n] 42)).drew.cell? ⟨W2.heap.size + 1, 0, none⟩ = some (.int .i64 T) := alloc_some x0 _
                            have F1 : (X.alloc (Obj.cells #[.int .i64 T, .int .i64 P, .int .i64 n] 42)).drew.cell? ⟨W2.heap.size + 1, 1, none⟩ = some (.int .i64 P) := alloc_some x1 _
                            have F2 : (X.alloc (Obj.cells #[.int .i64 T, .int .i64 P, .int .i64 n] 42)).drew.cell? ⟨W2.heap.size + 1, 2, none⟩ = some (.int .i64 n) := alloc_some x2 _
                            have G0 : ((X.alloc (Obj.cells #[] 42)).alloc (Obj.cells #[.int .i64 T, .int .i64 P, .int .i64 n] 42)).drew.cell? ⟨W2.heap.size + 1, 0, none⟩ = some (.int .i64 T) := alloc_some (alloc_some x0 _) _
                            have G1 : ((X.alloc (Obj.cells #[] 42)).alloc (Obj.cells #[.int .i64 T, .int .i64 P, .int .i64 n] 42)).drew.cell? ⟨W2.heap.size + 1, 1, none⟩ = some (.int .i64 P) := alloc_some (alloc_some x1 _) _
                            have G2 : ((X.alloc (Obj.cells #[] 42)).alloc (Obj.cells #[.int .i64 T, .int .i64 P, .int .i64 n] 42)).drew.cell? ⟨W2.heap.size + 1, 2, none⟩ = some (.int .i64 n) := alloc_some (alloc_some x2 _) _
                            have J0 : ((X.alloc (Obj.cells #[.int .i64 T, .int .i64 P, .int .i64 n] 42)).alloc (Obj.cells #[] 42)).drew.cell? ⟨W2.heap.size + 1, 0, none⟩ = some (.int .i64 T) := alloc_some (alloc_some x0 _) _
                            have J1 : ((X.alloc (Obj.cells #[.int .i64 T, .int .i64 P, .int .i64 n] 42)).alloc (Obj.cells #[] 42)).drew.cell? ⟨W2.heap.size + 1, 1, none⟩ = some (.int .i64 P) := alloc_some (alloc_some x1 _) _
                            have J2 : ((X.alloc (Obj.cells #[.int .i64 T, .int .i64 P, .int .i64 n] 42)).alloc (Obj.cells #[] 42)).drew.cell? ⟨W2.heap.size + 1, 2, none⟩ = some (.int .i64 n) := alloc_some (alloc_some x2 _) _
                            have BA1 : Hid (Below X.heap.size X (X.alloc (Obj.cells #[] 42)).drew) := (((Below.refl _ X).alloc (Nat.le_refl _) _).drew)
                            have BA2 : Hid (Below X.heap.size X ((X.alloc (Obj.cells #[] 42)).alloc (Obj.cells #[.int .i64 T, .int .i64 P, .int .i64 n] 42)).drew) := ((((Below.refl _ X).alloc (Nat.le_refl _) _).alloc (by simp) _).drew)
                            have BB : Hid (Below X.heap.size X ((X.alloc (Obj.cells #[.int .i64 T, .int .i64 P, .int .i64 n] 42)).alloc (Obj.cells #[] 42)).drew) := ((((Below.refl _ X).alloc (Nat.le_refl _) _).alloc (by simp) _).drew)
                            have OA1 : Hid (SlOwn tripS (X.alloc (Obj.cells #[] 42)).drew X.heap.size 42 (.slice (some ⟨X.heap.size, 0, none⟩) 0 0) []) := own_empty tripS X _
                            have OA2 : Hid (SlOwn tripS ((X.alloc (Obj.cells #[] 42)).alloc (Obj.cells #[.int .i64 T, .int .i64 P, .int .i64 n] 42)).drew X.heap.size 42 (.slice (some ⟨X.heap.size, 0, none⟩) 0 0) []) := (own_empty tripS X 42).below (((Below.refl _ _).alloc (Nat.le_refl _) _).drew)
                            have OB2 : Hid (SlOwn tripS ((X.alloc (Obj.cells #[.int .i64 T, .int .i64 P, .int .i64 n] 42)).alloc (Obj.cells #[] 42)).drew (X.heap.size + 1) 42 (.slice (some ⟨X.heap.size + 1, 0, none⟩) 0 0) []) := own_empty_n tripS (X.alloc (Obj.cells #[.int .i64 T, .int .i64 P, .int .i64 n] 42)) _ (by simp)
                            have LA1 : Hid (SlAt tripS (X.alloc (Obj.cells #[] 42)).drew (some ⟨b, off, sp⟩) (m.take (0))) := (HAX.out.below BA1.out).take _
                            have LA2 : Hid (SlAt tripS ((X.alloc (Obj.cells #[] 42)).alloc (Obj.cells #[.int .i64 T, .int .i64 P, .int .i64 n] 42)).drew (some ⟨b, off, sp⟩) (m.take (0))) := (HAX.out.below BA2.out).take _
                            have LB : Hid (SlAt tripS ((X.alloc (Obj.cells #[.int .i64 T, .int .i64 P, .int .i64 n] 42)).alloc (Obj.cells #[] 42)).drew (some ⟨b, off, sp⟩) (m.take (0))) := (HAX.out.below BB.out).take _
                            have NK : Hid (0 = (m.take (0)).length) := by show _ = _; simp only [List.length_take]; omega
                            have LE1 : Hid (([] : List (Int × Int × Int)).length + (m.take (0)).length ≤ 1048576) := by show _ ≤ _; simp only [List.length_take, List.length_nil]; omega
                            have LE2 : Hid (([] ++ m.take (0)).length + [(T, P, n)].length ≤ 1048576) := by show _ ≤ _; simp only [List.length_append, List.length_take, List.length_nil, List.length_cons]; omega
                            have EA2 : Hid (((X.alloc (Obj.cells #[] 42)).alloc (Obj.cells #[.int .i64 T, .int .i64 P, .int .i64 n] 42)).drew.heap[X.heap.size + 1]? = some (Obj.cells #[.int .i64 T, .int .i64 P, .int .i64 n] 42)) := heap_new (w := X.alloc (Obj.cells #[] 42)) (by simp)
                            have EB : Hid (((X.alloc (Obj.cells #[.int .i64 T, .int .i64 P, .int .i64 n] 42)).alloc (Obj.cells #[] 42)).drew.heap[X.heap.size]? = some (Obj.cells #[.int .i64 T, .int .i64 P, .int .i64 n] 42)) := (((Below.refl (X.heap.size + 1) (X.alloc (Obj.cells #[.int .i64 T, .int .i64 P, .int .i64 n] 42))).alloc (by simp) (Obj.cells #[] 42)).block X.heap.size (by omega)).trans (heap_new (w := X) rfl)
                            go_region_held3 (fun w' => w'.cell? ⟨W2.heap.size + 1, 0, none⟩ = some (.int .i64 T) ∧ w'.cell? ⟨W2.heap.size + 1, 1, none⟩ = some (.int .i64 P) ∧ w'.cell? ⟨W2.heap.size + 1, 2, none⟩ = some (.int .i64 n))
                              (first | exact ⟨c0'', c1'', c2''⟩ | exact ⟨e0', e1', e2'⟩ | exact ⟨c0', c1', c2'⟩ | exact ⟨D0, D1, D2⟩ | exact ⟨F0, F1, F2⟩ | exact ⟨G0, G1, G2⟩ | exact ⟨J0, J1, J2⟩ | go_keep)
                              (first
                                | (refine step_append_slsv tripS _ rfl _ _ 26 rfl _ 42 i0 _ 24 Try.underlying26 hi hz0 hz1 hz2 rfl (by decide) _ ([] ++ m.take (0)) rfl HO5.out _ 1 1 [(T, P, n)] rfl rfl HS5.out LE2.out HZ5.out ?_; intro A6 n6 k6 w6 hn6 ho6 hb6 hg6; have HN6 := Lib.hid hn6; have HO6 : Hid (SlOwn tripS w6 X.heap.size 42 (.slice A6 n6 k6) ([] ++ m.take (0) ++ [(T, P, n)])) := ho6.base HZ5'.out; have HBQ := Lib.hid (HQ5.out.trans (hb6.mono HY5.out)); have c0'' := (hb6.cell (p := ⟨W2.heap.size + 1, 0, none⟩) (Nat.lt_of_lt_of_le hsX HZ5'.out)).trans e0'; have c1'' := (hb6.cell (p := ⟨W2.heap.size + 1, 1, none⟩) (Nat.lt_of_lt_of_le hsX HZ5'.out)).trans e1'; have c2'' := (hb6.cell (p := ⟨W2.heap.size + 1, 2, none⟩) (Nat.lt_of_lt_of_le hsX HZ5'.out)).trans e2'; clear hn6 ho6 hb6 hg6)
                                | (refine step_append_slsv tripS _ rfl _ _ 26 rfl X.heap.size 42 i0 _ 24 Try.underlying26 hi hz0 hz1 hz2 rfl (by decide) (.slice (some ⟨X.heap.size, 0, none⟩) 0 0) [] rfl OA1.out _ _ _ (m.take (0)) rfl NK.out LA1.out LE1.out (by simp) ?_; intro A5 n5 k5 w5 hn5 ho5 hb5 hg5; have c0' := (hb5.cell (p := ⟨W2.heap.size + 1, 0, none⟩) hsX).trans D0; have c1' := (hb5.cell (p := ⟨W2.heap.size + 1, 1, none⟩) hsX).trans D1; have c2' := (hb5.cell (p := ⟨W2.heap.size + 1, 2, none⟩) hsX).trans D2; have e0' := alloc_some c0' (Obj.cells #[.int .i64 T, .int .i64 P, .int .i64 n] 42); have e1' := alloc_some c1' (Obj.cells #[.int .i64 T, .int .i64 P, .int .i64 n] 42); have e2' := alloc_some c2' (Obj.cells #[.int .i64 T, .int .i64 P, .int .i64 n] 42); have HO5 := Lib.hid (ho5.below ((Below.refl _ _).alloc (Nat.le_refl _) (Obj.cells #[.int .i64 T, .int .i64 P, .int .i64 n] 42))); have HS5 := Lib.hid (slAt_trip1 (x := (T, P, n)) (heap_new (w := w5) (o := (Obj.cells #[.int .i64 T, .int .i64 P, .int .i64 n] 42)) rfl)); have HZ5 : Hid (X.heap.size ≤ (w5.alloc (Obj.cells #[.int .i64 T, .int .i64 P, .int .i64 n] 42)).heap.size) := Nat.le_trans (BA1.out.trans hb5).size ((Below.refl 0 w5).alloc (Nat.zero_le _) _).size; have HZ5' : Hid (X.heap.size ≤ X.heap.size) := Nat.le_refl _; have HQ5 := Lib.hid ((BA1.out.trans hb5).alloc (BA1.out.trans hb5).size (Obj.cells #[.int .i64 T, .int .i64 P, .int .i64 n] 42)); have HY5 : Hid (X.heap.size ≤ X.heap.size) := Nat.le_refl _; clear hn5 ho5 hb5 hg5)
                                | (refine step_append_slsv tripS _ rfl _ _ 26 rfl X.heap.size 42 i0 _ 24 Try.underlying26 hi hz0 hz1 hz2 rfl (by decide) (.slice (some ⟨X.heap.size, 0, none⟩) 0 0) [] rfl OA2.out _ _ _ (m.take (0)) rfl NK.out LA2.out LE1.out (by simp; omega) ?_; intro A5 n5 k5 w5 hn5 ho5 hb5 hg5; have e0' := (hb5.cell (p := ⟨W2.heap.size + 1, 0, none⟩) hsX).trans G0; have e1' := (hb5.cell (p := ⟨W2.heap.size + 1, 1, none⟩) hsX).trans G1; have e2' := (hb5.cell (p := ⟨W2.heap.size + 1, 2, none⟩) hsX).trans G2; have HO5 := Lib.hid ho5; have HS5 := Lib.hid (slAt_trip1 (x := (T, P, n)) ((hg5.block (X.heap.size + 1) (Array.getElem?_eq_some_iff.1 EA2.out).1 (by simp [Value.ownBlock])).trans EA2.out)); have HZ5 : Hid (X.heap.size ≤ w5.heap.size) := (BA2.out.trans hb5).size; have HZ5' : Hid (X.heap.size ≤ X.heap.size) := Nat.le_refl _; have HQ5 := Lib.hid (BA2.out.trans hb5); have HY5 : Hid (X.heap.size ≤ X.heap.size) := Nat.le_refl _; clear hn5 ho5 hb5 hg5)
                                | (refine step_append_slsv tripS _ rfl _ _ 26 rfl (X.heap.size + 1) 42 i0 _ 24 Try.underlying26 hi hz0 hz1 hz2 rfl (by decide) (.slice (some ⟨X.heap.size + 1, 0, none⟩) 0 0) [] rfl OB2.out _ _ _ (m.take (0)) rfl NK.out LB.out LE1.out (by simp) ?_; intro A5 n5 k5 w5 hn5 ho5 hb5 hg5; have e0' := (hb5.cell (p := ⟨W2.heap.size + 1, 0, none⟩) (Nat.lt_succ_of_lt hsX)).trans J0; have e1' := (hb5.cell (p := ⟨W2.heap.size + 1, 1, none⟩) (Nat.lt_succ_of_lt hsX)).trans J1; have e2' := (hb5.cell (p := ⟨W2.heap.size + 1, 2, none⟩) (Nat.lt_succ_of_lt hsX)).trans J2; have HO5 := Lib.hid ho5; have HS5 := Lib.hid (slAt_trip1 (x := (T, P, n)) ((hb5.block X.heap.size (Nat.lt_succ_self _)).trans EB.out)); have HZ5 : Hid (X.heap.size + 1 ≤ w5.heap.size) := Nat.le_trans (by simp) hb5.size; have HZ5' : Hid (X.heap.size ≤ X.heap.size + 1) := Nat.le_succ _; have HQ5 := Lib.hid (BB.out.trans (hb5.mono (Nat.le_succ _))); have HY5 : Hid (X.heap.size ≤ X.heap.size + 1) := Nat.le_succ _; clear hn5 ho5 hb5 hg5))
                            all_goals (
                              have HA6 : Hid (SlAt tripS w6 (some ⟨b, off, sp⟩) m) := HAX.out.below HBQ.out
                              have LE6 : Hid (([] ++ m.take (0) ++ [(T, P, n)]).length + (m.drop (0)).length ≤ 1048576) := by show _ ≤ _; simp only [List.length_append, List.length_take, List.length_drop, List.length_nil, List.length_cons]; omega
                              have ND : Hid (m.length - (0) = (m.drop (0)).length) := by show _ = _; rw [List.length_drop]
                              have HZ6 : Hid (X.heap.size ≤ w6.heap.size) := HBQ.out.size
                              go_wp2_with (at_builtin; refine wpList_append_slsv tripS _ rfl _ _ 26 rfl X.heap.size 42 i0 _ 24 Try.underlying26 hi hz0 hz1 hz2 rfl (by decide) _ ([] ++ m.take (0) ++ [(T, P, n)]) rfl HO6.out _ _ _ (m.drop (0)) rfl ND.out (.inl (by rw [HL.out]; rfl)) LE6.out HZ6.out ?_; intro A7 n7 k7 w7 hn7 ho7 hb7; have HO7 := Lib.hid ho7; have HB7 := Lib.hid (HBX.out.trans ((HBQ.out.trans hb7).mono h3X)); clear hn7 ho7 hb7)
                              all_goals (
                                go_roundw
                                case rel =>
                                  refine ⟨q + 1, A7, n7, k7, by omega, by go_num, rfl, OB3.out.trans (HB7.out.mono OS3.out), ?_⟩
                                  have := HO7.out
                                  rw [take_drop_gPut HKE.out, OSN2.out] at this
                                  exact this.base (Nat.le_trans OS4.out h3X)
                                case measure => (simp [intOf]; omega)))
                          · obtain rfl : sp = none := by
                              rcases HM3.out with h | ⟨_, _, h, _, _⟩
                              · exact absurd h hl
                              · injection h with h; injection h
                            clear hl
                            have HKE : Hid (0 = gK mLt (0, 0, 0) m (T, P, n) m.length) := HP.out
                            obtain ⟨X, hX⟩ : ∃ X, X = W4.drewN nq := ⟨_, rfl⟩
                            have HBX : Hid (Below W3.heap.size W3 X) := by rw [hX]; exact ⟨HB4.out.os, HB4.out.tape, HB4.out.output, HB4.out.size, HB4.out.block⟩
                            have HAX : Hid (SlAt tripS X (some ⟨b, off, none⟩) m) := HM3.out.below HBX.out
                            have x0 : X.cell? ⟨W2.heap.size + 1, 0, none⟩ = some (.int .i64 T) := Below.cell_some HBX.out Z0.out
                            have x1 : X.cell? ⟨W2.heap.size + 1, 1, none⟩ = some (.int .i64 P) := Below.cell_some HBX.out Z1.out
                            have x2 : X.cell? ⟨W2.heap.size + 1, 2, none⟩ = some (.int .i64 n) := Below.cell_some HBX.out Z2.out
                            have hsX : W2.heap.size + 1 < X.heap.size := Nat.lt_of_lt_of_le HZ3.out HBX.out.size
                            have h3X : W3.heap.size ≤ X.heap.size := HBX.out.size
                            rw [← hX]
                            clear hX z0 z1 z2
                            have p0 : X.drew.cell? ⟨W2.heap.size + 1, 0, none⟩ = some (.int .i64 T) := x0
                            have p1 : X.drew.cell? ⟨W2.heap.size + 1, 1, none⟩ = some (.int .i64 P) := x1
                            have p2 : X.drew.cell? ⟨W2.heap.size + 1, 2, none⟩ = some (.int .i64 n) := x2
                            have D0 : (X.alloc (Obj.cells #[] 42)).drew.cell? ⟨W2.heap.size + 1, 0, none⟩ = some (.int .i64 T) := alloc_some x0 _
                            have D1 : (X.alloc (Obj.cells #[] 42)).drew.cell? ⟨W2.heap.size + 1, 1, none⟩ = some (.int .i64 P) := alloc_some x1 _
                            have D2 : (X.alloc (Obj.cells #[] 42)).drew.cell? ⟨W2.heap.size + 1, 2, none⟩ = some (.int .i64 n) := alloc_some x2 _
                            have F0 : (X.alloc (Obj.cells #[.int .i64 T, .int .i64 P, .int .i64 n] 42)).drew.cell? ⟨W2.heap.size + 1, 0, none⟩ = some (.int .i64 T) := alloc_some x0 _
                            have F1 : (X.alloc (Obj.cells #[.int .i64 T, .int .i64 P, .int .i64 n] 42)).drew.cell? ⟨W2.heap.size + 1, 1, none⟩ = some (.int .i64 P) := alloc_some x1 _
                            have F2 : (X.alloc (Obj.cells #[.int .i64 T, .int .i64 P, .int .i64 n] 42)).drew.cell? ⟨W2.heap.size + 1, 2, none⟩ = some (.int .i64 n) := alloc_some x2 _
                            have G0 : ((X.alloc (Obj.cells #[] 42)).alloc (Obj.cells #[.int .i64 T, .int .i64 P, .int .i64 n] 42)).drew.cell? ⟨W2.heap.size + 1, 0, none⟩ = some (.int .i64 T) := alloc_some (alloc_some x0 _) _
                            have G1 : ((X.alloc (Obj.cells #[] 42)).alloc (Obj.cells #[.int .i64 T, .int .i64 P, .int .i64 n] 42)).drew.cell? ⟨W2.heap.size + 1, 1, none⟩ = some (.int .i64 P) := alloc_some (alloc_some x1 _) _
                            have G2 : ((X.alloc (Obj.cells #[] 42)).alloc (Obj.cells #[.int .i64 T, .int .i64 P, .int .i64 n] 42)).drew.cell? ⟨W2.heap.size + 1, 2, none⟩ = some (.int .i64 n) := alloc_some (alloc_some x2 _) _
                            have J0 : ((X.alloc (Obj.cells #[.int .i64 T, .int .i64 P, .int .i64 n] 42)).alloc (Obj.cells #[] 42)).drew.cell? ⟨W2.heap.size + 1, 0, none⟩ = some (.int .i64 T) := alloc_some (alloc_some x0 _) _
                            have J1 : ((X.alloc (Obj.cells #[.int .i64 T, .int .i64 P, .int .i64 n] 42)).alloc (Obj.cells #[] 42)).drew.cell? ⟨W2.heap.size + 1, 1, none⟩ = some (.int .i64 P) := alloc_some (alloc_some x1 _) _
                            have J2 : ((X.alloc (Obj.cells #[.int .i64 T, .int .i64 P, .int .i64 n] 42)).alloc (Obj.cells #[] 42)).drew.cell? ⟨W2.heap.size + 1, 2, none⟩ = some (.int .i64 n) := alloc_some (alloc_some x2 _) _
                            have BA1 : Hid (Below X.heap.size X (X.alloc (Obj.cells #[] 42)).drew) := (((Below.refl _ X).alloc (Nat.le_refl _) _).drew)
                            have BA2 : Hid (Below X.heap.size X ((X.alloc (Obj.cells #[] 42)).alloc (Obj.cells #[.int .i64 T, .int .i64 P, .int .i64 n] 42)).drew) := ((((Below.refl _ X).alloc (Nat.le_refl _) _).alloc (by simp) _).drew)
                            have BB : Hid (Below X.heap.size X ((X.alloc (Obj.cells #[.int .i64 T, .int .i64 P, .int .i64 n] 42)).alloc (Obj.cells #[] 42)).drew) := ((((Below.refl _ X).alloc (Nat.le_refl _) _).alloc (by simp) _).drew)
                            have OA1 : Hid (SlOwn tripS (X.alloc (Obj.cells #[] 42)).drew X.heap.size 42 (.slice (some ⟨X.heap.size, 0, none⟩) 0 0) []) := own_empty tripS X _
                            have OA2 : Hid (SlOwn tripS ((X.alloc (Obj.cells #[] 42)).alloc (Obj.cells #[.int .i64 T, .int .i64 P, .int .i64 n] 42)).drew X.heap.size 42 (.slice (some ⟨X.heap.size, 0, none⟩) 0 0) []) := (own_empty tripS X 42).below (((Below.refl _ _).alloc (Nat.le_refl _) _).drew)
                            have OB2 : Hid (SlOwn tripS ((X.alloc (Obj.cells #[.int .i64 T, .int .i64 P, .int .i64 n] 42)).alloc (Obj.cells #[] 42)).drew (X.heap.size + 1) 42 (.slice (some ⟨X.heap.size + 1, 0, none⟩) 0 0) []) := own_empty_n tripS (X.alloc (Obj.cells #[.int .i64 T, .int .i64 P, .int .i64 n] 42)) _ (by simp)
                            have LA1 : Hid (SlAt tripS (X.alloc (Obj.cells #[] 42)).drew (some ⟨b, off, none⟩) (m.take (0))) := (HAX.out.below BA1.out).take _
                            have LA2 : Hid (SlAt tripS ((X.alloc (Obj.cells #[] 42)).alloc (Obj.cells #[.int .i64 T, .int .i64 P, .int .i64 n] 42)).drew (some ⟨b, off, none⟩) (m.take (0))) := (HAX.out.below BA2.out).take _
                            have LB : Hid (SlAt tripS ((X.alloc (Obj.cells #[.int .i64 T, .int .i64 P, .int .i64 n] 42)).alloc (Obj.cells #[] 42)).drew (some ⟨b, off, none⟩) (m.take (0))) := (HAX.out.below BB.out).take _
                            have NK : Hid (0 = (m.take (0)).length) := by show _ = _; simp only [List.length_take]; omega
                            have LE1 : Hid (([] : List (Int × Int × Int)).length + (m.take (0)).length ≤ 1048576) := by show _ ≤ _; simp only [List.length_take, List.length_nil]; omega
                            have LE2 : Hid (([] ++ m.take (0)).length + [(T, P, n)].length ≤ 1048576) := by show _ ≤ _; simp only [List.length_append, List.length_take, List.length_nil, List.length_cons]; omega
                            have EA2 : Hid (((X.alloc (Obj.cells #[] 42)).alloc (Obj.cells #[.int .i64 T, .int .i64 P, .int .i64 n] 42)).drew.heap[X.heap.size + 1]? = some (Obj.cells #[.int .i64 T, .int .i64 P, .int .i64 n] 42)) := heap_new (w := X.alloc (Obj.cells #[] 42)) (by simp)
                            have EB : Hid (((X.alloc (Obj.cells #[.int .i64 T, .int .i64 P, .int .i64 n] 42)).alloc (Obj.cells #[] 42)).drew.heap[X.heap.size]? = some (Obj.cells #[.int .i64 T, .int .i64 P, .int .i64 n] 42)) := (((Below.refl (X.heap.size + 1) (X.alloc (Obj.cells #[.int .i64 T, .int .i64 P, .int .i64 n] 42))).alloc (by simp) (Obj.cells #[] 42)).block X.heap.size (by omega)).trans (heap_new (w := X) rfl)
                            go_region_held3 (fun w' => w'.cell? ⟨W2.heap.size + 1, 0, none⟩ = some (.int .i64 T) ∧ w'.cell? ⟨W2.heap.size + 1, 1, none⟩ = some (.int .i64 P) ∧ w'.cell? ⟨W2.heap.size + 1, 2, none⟩ = some (.int .i64 n))
                              (first | exact ⟨c0'', c1'', c2''⟩ | exact ⟨e0', e1', e2'⟩ | exact ⟨c0', c1', c2'⟩ | exact ⟨D0, D1, D2⟩ | exact ⟨F0, F1, F2⟩ | exact ⟨G0, G1, G2⟩ | exact ⟨J0, J1, J2⟩ | go_keep)
                              (first
                                | (refine step_append_slsv tripS _ rfl _ _ 26 rfl _ 42 i0 _ 24 Try.underlying26 hi hz0 hz1 hz2 rfl (by decide) _ ([] ++ m.take (0)) rfl HO5.out _ 1 1 [(T, P, n)] rfl rfl HS5.out LE2.out HZ5.out ?_; intro A6 n6 k6 w6 hn6 ho6 hb6 hg6; have HN6 := Lib.hid hn6; have HO6 : Hid (SlOwn tripS w6 X.heap.size 42 (.slice A6 n6 k6) ([] ++ m.take (0) ++ [(T, P, n)])) := ho6.base HZ5'.out; have HBQ := Lib.hid (HQ5.out.trans (hb6.mono HY5.out)); have c0'' := (hb6.cell (p := ⟨W2.heap.size + 1, 0, none⟩) (Nat.lt_of_lt_of_le hsX HZ5'.out)).trans e0'; have c1'' := (hb6.cell (p := ⟨W2.heap.size + 1, 1, none⟩) (Nat.lt_of_lt_of_le hsX HZ5'.out)).trans e1'; have c2'' := (hb6.cell (p := ⟨W2.heap.size + 1, 2, none⟩) (Nat.lt_of_lt_of_le hsX HZ5'.out)).trans e2'; clear hn6 ho6 hb6 hg6)
                                | (refine step_append_slsv tripS _ rfl _ _ 26 rfl X.heap.size 42 i0 _ 24 Try.underlying26 hi hz0 hz1 hz2 rfl (by decide) (.slice (some ⟨X.heap.size, 0, none⟩) 0 0) [] rfl OA1.out _ _ _ (m.take (0)) rfl NK.out LA1.out LE1.out (by simp) ?_; intro A5 n5 k5 w5 hn5 ho5 hb5 hg5; have c0' := (hb5.cell (p := ⟨W2.heap.size + 1, 0, none⟩) hsX).trans D0; have c1' := (hb5.cell (p := ⟨W2.heap.size + 1, 1, none⟩) hsX).trans D1; have c2' := (hb5.cell (p := ⟨W2.heap.size + 1, 2, none⟩) hsX).trans D2; have e0' := alloc_some c0' (Obj.cells #[.int .i64 T, .int .i64 P, .int .i64 n] 42); have e1' := alloc_some c1' (Obj.cells #[.int .i64 T, .int .i64 P, .int .i64 n] 42); have e2' := alloc_some c2' (Obj.cells #[.int .i64 T, .int .i64 P, .int .i64 n] 42); have HO5 := Lib.hid (ho5.below ((Below.refl _ _).alloc (Nat.le_refl _) (Obj.cells #[.int .i64 T, .int .i64 P, .int .i64 n] 42))); have HS5 := Lib.hid (slAt_trip1 (x := (T, P, n)) (heap_new (w := w5) (o := (Obj.cells #[.int .i64 T, .int .i64 P, .int .i64 n] 42)) rfl)); have HZ5 : Hid (X.heap.size ≤ (w5.alloc (Obj.cells #[.int .i64 T, .int .i64 P, .int .i64 n] 42)).heap.size) := Nat.le_trans (BA1.out.trans hb5).size ((Below.refl 0 w5).alloc (Nat.zero_le _) _).size; have HZ5' : Hid (X.heap.size ≤ X.heap.size) := Nat.le_refl _; have HQ5 := Lib.hid ((BA1.out.trans hb5).alloc (BA1.out.trans hb5).size (Obj.cells #[.int .i64 T, .int .i64 P, .int .i64 n] 42)); have HY5 : Hid (X.heap.size ≤ X.heap.size) := Nat.le_refl _; clear hn5 ho5 hb5 hg5)
                                | (refine step_append_slsv tripS _ rfl _ _ 26 rfl X.heap.size 42 i0 _ 24 Try.underlying26 hi hz0 hz1 hz2 rfl (by decide) (.slice (some ⟨X.heap.size, 0, none⟩) 0 0) [] rfl OA2.out _ _ _ (m.take (0)) rfl NK.out LA2.out LE1.out (by simp; omega) ?_; intro A5 n5 k5 w5 hn5 ho5 hb5 hg5; have e0' := (hb5.cell (p := ⟨W2.heap.size + 1, 0, none⟩) hsX).trans G0; have e1' := (hb5.cell (p := ⟨W2.heap.size + 1, 1, none⟩) hsX).trans G1; have e2' := (hb5.cell (p := ⟨W2.heap.size + 1, 2, none⟩) hsX).trans G2; have HO5 := Lib.hid ho5; have HS5 := Lib.hid (slAt_trip1 (x := (T, P, n)) ((hg5.block (X.heap.size + 1) (Array.getElem?_eq_some_iff.1 EA2.out).1 (by simp [Value.ownBlock])).trans EA2.out)); have HZ5 : Hid (X.heap.size ≤ w5.heap.size) := (BA2.out.trans hb5).size; have HZ5' : Hid (X.heap.size ≤ X.heap.size) := Nat.le_refl _; have HQ5 := Lib.hid (BA2.out.trans hb5); have HY5 : Hid (X.heap.size ≤ X.heap.size) := Nat.le_refl _; clear hn5 ho5 hb5 hg5)
                                | (refine step_append_slsv tripS _ rfl _ _ 26 rfl (X.heap.size + 1) 42 i0 _ 24 Try.underlying26 hi hz0 hz1 hz2 rfl (by decide) (.slice (some ⟨X.heap.size + 1, 0, none⟩) 0 0) [] rfl OB2.out _ _ _ (m.take (0)) rfl NK.out LB.out LE1.out (by simp) ?_; intro A5 n5 k5 w5 hn5 ho5 hb5 hg5; have e0' := (hb5.cell (p := ⟨W2.heap.size + 1, 0, none⟩) (Nat.lt_succ_of_lt hsX)).trans J0; have e1' := (hb5.cell (p := ⟨W2.heap.size + 1, 1, none⟩) (Nat.lt_succ_of_lt hsX)).trans J1; have e2' := (hb5.cell (p := ⟨W2.heap.size + 1, 2, none⟩) (Nat.lt_succ_of_lt hsX)).trans J2; have HO5 := Lib.hid ho5; have HS5 := Lib.hid (slAt_trip1 (x := (T, P, n)) ((hb5.block X.heap.size (Nat.lt_succ_self _)).trans EB.out)); have HZ5 : Hid (X.heap.size + 1 ≤ w5.heap.size) := Nat.le_trans (by simp) hb5.size; have HZ5' : Hid (X.heap.size ≤ X.heap.size + 1) := Nat.le_succ _; have HQ5 := Lib.hid (BB.out.trans (hb5.mono (Nat.le_succ _))); have HY5 : Hid (X.heap.size ≤ X.heap.size + 1) := Nat.le_succ _; clear hn5 ho5 hb5 hg5))
                            all_goals (
                              have HA6 : Hid (SlAt tripS w6 (some ⟨b, off, none⟩) m) := HAX.out.below HBQ.out
                              have LE6 : Hid (([] ++ m.take (0) ++ [(T, P, n)]).length + (m.drop (0)).length ≤ 1048576) := by show _ ≤ _; simp only [List.length_append, List.length_take, List.length_drop, List.length_nil, List.length_cons]; omega
                              have ND : Hid (m.length - (0) = (m.drop (0)).length) := by show _ = _; rw [List.length_drop]
                              have HZ6 : Hid (X.heap.size ≤ w6.heap.size) := HBQ.out.size
                              go_wp2_with (at_builtin; refine wpList_append_slsv tripS _ rfl _ _ 26 rfl X.heap.size 42 i0 _ 24 Try.underlying26 hi hz0 hz1 hz2 rfl (by decide) _ ([] ++ m.take (0) ++ [(T, P, n)]) rfl HO6.out _ _ _ (m.drop (0)) rfl ND.out HA6.out LE6.out HZ6.out ?_; intro A7 n7 k7 w7 hn7 ho7 hb7; have HO7 := Lib.hid ho7; have HB7 := Lib.hid (HBX.out.trans ((HBQ.out.trans hb7).mono h3X)); clear hn7 ho7 hb7)
                              all_goals (
                                go_roundw
                                case rel =>
                                  refine ⟨q + 1, A7, n7, k7, by omega, by go_num, rfl, OB3.out.trans (HB7.out.mono OS3.out), ?_⟩
                                  have := HO7.out
                                  rw [take_drop_gPut HKE.out, OSN2.out] at this
                                  exact this.base (Nat.le_trans OS4.out h3X)
                                case measure => (simp [intOf]; omega)))
                      | succ j =>
                        have hj : j < m.length := hkk
                        obtain ⟨b, off, rfl, l0, hc⟩ := ((HM3.out.below HB4.out).trip_at hj)
                        obtain ⟨a0, a1, a2⟩ := hc j _ (List.getElem?_eq_getElem hj)
                        clear hc
                        have hw : IntKind.i64.wrap (((j + 1 : Nat) : Int) - 1) = (j : Int) := by rw [IntWalk.i64_in _ (by omega)]; omega
                        have hw2 : IntKind.i64.wrap ((j : Int) + 1 - 1) = (j : Int) := by rw [IntWalk.i64_in _ (by omega)]; omega
                        have hw3 : IntKind.i64.wrap (j : Int) = (j : Int) := IntWalk.i64_in _ (by omega)
                        have hg0 : (0 : Int) < ((j + 1 : Nat) : Int) := by omega
                        have hg1 : (0 : Int) < (j : Int) + 1 := by omega
                        have hj0 : (0 : Int) ≤ (j : Int) := by omega
                        have hj2 : (0 : Int) ≤ (j : Int) + 1 := by omega
                        have hj3 : (j : Int) + 1 ≤ (c6 : Int) := by omega
                        have hj4 : (j : Int) + 1 ≤ (m.length : Int) := by omega
                        have hj5 : (m.length : Int) ≤ (c6 : Int) := by omega
                        have hj1 : (j : Int) < (m.length : Int) := by omega
                        have HPU : Hid (gK mLt (0, 0, 0) m (T, P, n) (j + 1) = if mLt (T, P, n) m[j] then gK mLt (0, 0, 0) m (T, P, n) j else j + 1) := by show _ = _; rw [← getD_lt (d := (0, 0, 0)) hj]; rfl
                        generalize m[j] = v at *
                        obtain ⟨v1, v2, v3⟩ := v
                        simp only at a0 a1 a2
                        have HP := Lib.hid hp
                        clear hp
                        have done : (mLt (T, P, n) (v1, v2, v3) = true → gK mLt (0, 0, 0) m (T, P, n) j = gK mLt (0, 0, 0) m (T, P, n) m.length) := fun h => by
                          have h1 := HPU.out
                          rw [h, if_pos rfl] at h1
                          rw [← h1]; exact HP.out
                        have stay : (mLt (T, P, n) (v1, v2, v3) = false → j + 1 = gK mLt (0, 0, 0) m (T, P, n) m.length) := fun h => by
                          have h1 := HPU.out
                          rw [h, if_neg (by decide)] at h1
                          rw [← h1]; exact HP.out
                        have HD := Lib.hid done
                        have HS := Lib.hid stay
                        clear done stay
                        by_cases h1 : T < v1
                        · have d1 : decide (T < v1) = true := decide_eq_true h1
                          go_wp2
                          go_quiet (fail)
                          go_wp2
                          go_roundw
                          case rel => exact ⟨j, by omega, by go_num, HD.out (by simp [mLt, *]), ⟨HB4.out.os, HB4.out.tape, HB4.out.output, HB4.out.size, HB4.out.block⟩⟩
                          case measure => simp [intOf]
                        · have d1 : decide (T < v1) = false := decide_eq_false h1
                          by_cases h2 : T = v1
                          · have d2 : (T == v1) = true := by simp [h2]
                            subst h2
                            by_cases h3 : P < v2
                            · have d3 : decide (P < v2) = true := decide_eq_true h3
                              go_wp2
                              go_quiet (fail)
                              go_wp2
                              go_roundw
                              case rel => exact ⟨j, by omega, by go_num, HD.out (by simp [mLt, *]), ⟨HB4.out.os, HB4.out.tape, HB4.out.output, HB4.out.size, HB4.out.block⟩⟩
                              case measure => simp [intOf]
                            · have d3 : decide (P < v2) = false := decide_eq_false h3
                              go_wp2
                              go_quiet (fail)
                              go_wp2
                              have HKE : Hid (j + 1 = gK mLt (0, 0, 0) m (T, P, n) m.length) := HS.out (by simp [mLt, *])
                              obtain ⟨X, hX⟩ : ∃ X, X = W4.drewN nq := ⟨_, rfl⟩
                              have HBX : Hid (Below W3.heap.size W3 X) := by rw [hX]; exact ⟨HB4.out.os, HB4.out.tape, HB4.out.output, HB4.out.size, HB4.out.block⟩
                              have HAX : Hid (SlAt tripS X (some ⟨b, off, none⟩) m) := HM3.out.below HBX.out
                              have x0 : X.cell? ⟨W2.heap.size + 1, 0, none⟩ = some (.int .i64 T) := Below.cell_some HBX.out Z0.out
                              have x1 : X.cell? ⟨W2.heap.size + 1, 1, none⟩ = some (.int .i64 P) := Below.cell_some HBX.out Z1.out
                              have x2 : X.cell? ⟨W2.heap.size + 1, 2, none⟩ = some (.int .i64 n) := Below.cell_some HBX.out Z2.out
                              have hsX : W2.heap.size + 1 < X.heap.size := Nat.lt_of_lt_of_le HZ3.out HBX.out.size
                              have h3X : W3.heap.size ≤ X.heap.size := HBX.out.size
                              rw [← hX]
                              clear hX z0 z1 z2
                              have p0 : X.drew.cell? ⟨W2.heap.size + 1, 0, none⟩ = some (.int .i64 T) := x0
                              have p1 : X.drew.cell? ⟨W2.heap.size + 1, 1, none⟩ = some (.int .i64 P) := x1
                              have p2 : X.drew.cell? ⟨W2.heap.size + 1, 2, none⟩ = some (.int .i64 n) := x2
                              have D0 : (X.alloc (Obj.cells #[] 42)).drew.cell? ⟨W2.heap.size + 1, 0, none⟩ = some (.int .i64 T) := alloc_some x0 _
                              have D1 : (X.alloc (Obj.cells #[] 42)).drew.cell? ⟨W2.heap.size + 1, 1, none⟩ = some (.int .i64 P) := alloc_some x1 _
                              have D2 : (X.alloc (Obj.cells #[] 42)).drew.cell? ⟨W2.heap.size + 1, 2, none⟩ = some (.int .i64 n) := alloc_some x2 _
                              have F0 : (X.alloc (Obj.cells #[.int .i64 T, .int .i64 P, .int .i64 n] 42)).drew.cell? ⟨W2.heap.size + 1, 0, none⟩ = some (.int .i64 T) := alloc_some x0 _
                              have F1 : (X.alloc (Obj.cells #[.int .i64 T, .int .i64 P, .int .i64 n] 42)).drew.cell? ⟨W2.heap.size + 1, 1, none⟩ = some (.int .i64 P) := alloc_some x1 _
                              have F2 : (X.alloc (Obj.cells #[.int .i64 T, .int .i64 P, .int .i64 n] 42)).drew.cell? ⟨W2.heap.size + 1, 2, none⟩ = some (.int .i64 n) := alloc_some x2 _
                              have G0 : ((X.alloc (Obj.cells #[] 42)).alloc (Obj.cells #[.int .i64 T, .int .i64 P, .int .i64 n] 42)).drew.cell? ⟨W2.heap.size + 1, 0, none⟩ = some (.int .i64 T) := alloc_some (alloc_some x0 _) _
                              have G1 : ((X.alloc (Obj.cells #[] 42)).alloc (Obj.cells #[.int .i64 T, .int .i64 P, .int .i64 n] 42)).drew.cell? ⟨W2.heap.size + 1, 1, none⟩ = some (.int .i64 P) := alloc_some (alloc_some x1 _) _
                              have G2 : ((X.alloc (Obj.cells #[] 42)).alloc (Obj.cells #[.int .i64 T, .int .i64 P, .int .i64 n] 42)).drew.cell? ⟨W2.heap.size + 1, 2, none⟩ = some (.int .i64 n) := alloc_some (alloc_some x2 _) _
                              have J0 : ((X.alloc (Obj.cells #[.int .i64 T, .int .i64 P, .int .i64 n] 42)).alloc (Obj.cells #[] 42)).drew.cell? ⟨W2.heap.size + 1, 0, none⟩ = some (.int .i64 T) := alloc_some (alloc_some x0 _) _
                              have J1 : ((X.alloc (Obj.cells #[.int .i64 T, .int .i64 P, .int .i64 n] 42)).alloc (Obj.cells #[] 42)).drew.cell? ⟨W2.heap.size + 1, 1, none⟩ = some (.int .i64 P) := alloc_some (alloc_some x1 _) _
                              have J2 : ((X.alloc (Obj.cells #[.int .i64 T, .int .i64 P, .int .i64 n] 42)).alloc (Obj.cells #[] 42)).drew.cell? ⟨W2.heap.size + 1, 2, none⟩ = some (.int .i64 n) := alloc_some (alloc_some x2 _) _
                              have BA1 : Hid (Below X.heap.size X (X.alloc (Obj.cells #[] 42)).drew) := (((Below.refl _ X).alloc (Nat.le_refl _) _).drew)
                              have BA2 : Hid (Below X.heap.size X ((X.alloc (Obj.cells #[] 42)).alloc (Obj.cells #[.int .i64 T, .int .i64 P, .int .i64 n] 42)).drew) := ((((Below.refl _ X).alloc (Nat.le_refl _) _).alloc (by simp) _).drew)
                              have BB : Hid (Below X.heap.size X ((X.alloc (Obj.cells #[.int .i64 T, .int .i64 P, .int .i64 n] 42)).alloc (Obj.cells #[] 42)).drew) := ((((Below.refl _ X).alloc (Nat.le_refl _) _).alloc (by simp) _).drew)
                              have OA1 : Hid (SlOwn tripS (X.alloc (Obj.cells #[] 42)).drew X.heap.size 42 (.slice (some ⟨X.heap.size, 0, none⟩) 0 0) []) := own_empty tripS X _
                              have OA2 : Hid (SlOwn tripS ((X.alloc (Obj.cells #[] 42)).alloc (Obj.cells #[.int .i64 T, .int .i64 P, .int .i64 n] 42)).drew X.heap.size 42 (.slice (some ⟨X.heap.size, 0, none⟩) 0 0) []) := (own_empty tripS X 42).below (((Below.refl _ _).alloc (Nat.le_refl _) _).drew)
                              have OB2 : Hid (SlOwn tripS ((X.alloc (Obj.cells #[.int .i64 T, .int .i64 P, .int .i64 n] 42)).alloc (Obj.cells #[] 42)).drew (X.heap.size + 1) 42 (.slice (some ⟨X.heap.size + 1, 0, none⟩) 0 0) []) := own_empty_n tripS (X.alloc (Obj.cells #[.int .i64 T, .int .i64 P, .int .i64 n] 42)) _ (by simp)
                              have LA1 : Hid (SlAt tripS (X.alloc (Obj.cells #[] 42)).drew (some ⟨b, off, none⟩) (m.take (j + 1))) := (HAX.out.below BA1.out).take _
                              have LA2 : Hid (SlAt tripS ((X.alloc (Obj.cells #[] 42)).alloc (Obj.cells #[.int .i64 T, .int .i64 P, .int .i64 n] 42)).drew (some ⟨b, off, none⟩) (m.take (j + 1))) := (HAX.out.below BA2.out).take _
                              have LB : Hid (SlAt tripS ((X.alloc (Obj.cells #[.int .i64 T, .int .i64 P, .int .i64 n] 42)).alloc (Obj.cells #[] 42)).drew (some ⟨b, off, none⟩) (m.take (j + 1))) := (HAX.out.below BB.out).take _
                              have NK : Hid (j + 1 = (m.take (j + 1)).length) := by show _ = _; simp only [List.length_take]; omega
                              have LE1 : Hid (([] : List (Int × Int × Int)).length + (m.take (j + 1)).length ≤ 1048576) := by show _ ≤ _; simp only [List.length_take, List.length_nil]; omega
                              have LE2 : Hid (([] ++ m.take (j + 1)).length + [(T, P, n)].length ≤ 1048576) := by show _ ≤ _; simp only [List.length_append, List.length_take, List.length_nil, List.length_cons]; omega
                              have EA2 : Hid (((X.alloc (Obj.cells #[] 42)).alloc (Obj.cells #[.int .i64 T, .int .i64 P, .int .i64 n] 42)).drew.heap[X.heap.size + 1]? = some (Obj.cells #[.int .i64 T, .int .i64 P, .int .i64 n] 42)) := heap_new (w := X.alloc (Obj.cells #[] 42)) (by simp)
                              have EB : Hid (((X.alloc (Obj.cells #[.int .i64 T, .int .i64 P, .int .i64 n] 42)).alloc (Obj.cells #[] 42)).drew.heap[X.heap.size]? = some (Obj.cells #[.int .i64 T, .int .i64 P, .int .i64 n] 42)) := (((Below.refl (X.heap.size + 1) (X.alloc (Obj.cells #[.int .i64 T, .int .i64 P, .int .i64 n] 42))).alloc (by simp) (Obj.cells #[] 42)).block X.heap.size (by omega)).trans (heap_new (w := X) rfl)
                              go_region_held3 (fun w' => w'.cell? ⟨W2.heap.size + 1, 0, none⟩ = some (.int .i64 T) ∧ w'.cell? ⟨W2.heap.size + 1, 1, none⟩ = some (.int .i64 P) ∧ w'.cell? ⟨W2.heap.size + 1, 2, none⟩ = some (.int .i64 n))
                                (first | exact ⟨c0'', c1'', c2''⟩ | exact ⟨e0', e1', e2'⟩ | exact ⟨c0', c1', c2'⟩ | exact ⟨D0, D1, D2⟩ | exact ⟨F0, F1, F2⟩ | exact ⟨G0, G1, G2⟩ | exact ⟨J0, J1, J2⟩ | go_keep)
                                (first
                                  | (refine step_append_slsv tripS _ rfl _ _ 26 rfl _ 42 i0 _ 24 Try.underlying26 hi hz0 hz1 hz2 rfl (by decide) _ ([] ++ m.take (j + 1)) rfl HO5.out _ 1 1 [(T, P, n)] rfl rfl HS5.out LE2.out HZ5.out ?_; intro A6 n6 k6 w6 hn6 ho6 hb6 hg6; have HN6 := Lib.hid hn6; have HO6 : Hid (SlOwn tripS w6 X.heap.size 42 (.slice A6 n6 k6) ([] ++ m.take (j + 1) ++ [(T, P, n)])) := ho6.base HZ5'.out; have HBQ := Lib.hid (HQ5.out.trans (hb6.mono HY5.out)); have c0'' := (hb6.cell (p := ⟨W2.heap.size + 1, 0, none⟩) (Nat.lt_of_lt_of_le hsX HZ5'.out)).trans e0'; have c1'' := (hb6.cell (p := ⟨W2.heap.size + 1, 1, none⟩) (Nat.lt_of_lt_of_le hsX HZ5'.out)).trans e1'; have c2'' := (hb6.cell (p := ⟨W2.heap.size + 1, 2, none⟩) (Nat.lt_of_lt_of_le hsX HZ5'.out)).trans e2'; clear hn6 ho6 hb6 hg6)
                                  | (refine step_append_slsv tripS _ rfl _ _ 26 rfl X.heap.size 42 i0 _ 24 Try.underlying26 hi hz0 hz1 hz2 rfl (by decide) (.slice (some ⟨X.heap.size, 0, none⟩) 0 0) [] rfl OA1.out _ _ _ (m.take (j + 1)) rfl NK.out LA1.out LE1.out (by simp) ?_; intro A5 n5 k5 w5 hn5 ho5 hb5 hg5; have c0' := (hb5.cell (p := ⟨W2.heap.size + 1, 0, none⟩) hsX).trans D0; have c1' := (hb5.cell (p := ⟨W2.heap.size + 1, 1, none⟩) hsX).trans D1; have c2' := (hb5.cell (p := ⟨W2.heap.size + 1, 2, none⟩) hsX).trans D2; have e0' := alloc_some c0' (Obj.cells #[.int .i64 T, .int .i64 P, .int .i64 n] 42); have e1' := alloc_some c1' (Obj.cells #[.int .i64 T, .int .i64 P, .int .i64 n] 42); have e2' := alloc_some c2' (Obj.cells #[.int .i64 T, .int .i64 P, .int .i64 n] 42); have HO5 := Lib.hid (ho5.below ((Below.refl _ _).alloc (Nat.le_refl _) (Obj.cells #[.int .i64 T, .int .i64 P, .int .i64 n] 42))); have HS5 := Lib.hid (slAt_trip1 (x := (T, P, n)) (heap_new (w := w5) (o := (Obj.cells #[.int .i64 T, .int .i64 P, .int .i64 n] 42)) rfl)); have HZ5 : Hid (X.heap.size ≤ (w5.alloc (Obj.cells #[.int .i64 T, .int .i64 P, .int .i64 n] 42)).heap.size) := Nat.le_trans (BA1.out.trans hb5).size ((Below.refl 0 w5).alloc (Nat.zero_le _) _).size; have HZ5' : Hid (X.heap.size ≤ X.heap.size) := Nat.le_refl _; have HQ5 := Lib.hid ((BA1.out.trans hb5).alloc (BA1.out.trans hb5).size (Obj.cells #[.int .i64 T, .int .i64 P, .int .i64 n] 42)); have HY5 : Hid (X.heap.size ≤ X.heap.size) := Nat.le_refl _; clear hn5 ho5 hb5 hg5)
                                  | (refine step_append_slsv tripS _ rfl _ _ 26 rfl X.heap.size 42 i0 _ 24 Try.underlying26 hi hz0 hz1 hz2 rfl (by decide) (.slice (some ⟨X.heap.size, 0, none⟩) 0 0) [] rfl OA2.out _ _ _ (m.take (j + 1)) rfl NK.out LA2.out LE1.out (by simp; omega) ?_; intro A5 n5 k5 w5 hn5 ho5 hb5 hg5; have e0' := (hb5.cell (p := ⟨W2.heap.size + 1, 0, none⟩) hsX).trans G0; have e1' := (hb5.cell (p := ⟨W2.heap.size + 1, 1, none⟩) hsX).trans G1; have e2' := (hb5.cell (p := ⟨W2.heap.size + 1, 2, none⟩) hsX).trans G2; have HO5 := Lib.hid ho5; have HS5 := Lib.hid (slAt_trip1 (x := (T, P, n)) ((hg5.block (X.heap.size + 1) (Array.getElem?_eq_some_iff.1 EA2.out).1 (by simp [Value.ownBlock])).trans EA2.out)); have HZ5 : Hid (X.heap.size ≤ w5.heap.size) := (BA2.out.trans hb5).size; have HZ5' : Hid (X.heap.size ≤ X.heap.size) := Nat.le_refl _; have HQ5 := Lib.hid (BA2.out.trans hb5); have HY5 : Hid (X.heap.size ≤ X.heap.size) := Nat.le_refl _; clear hn5 ho5 hb5 hg5)
                                  | (refine step_append_slsv tripS _ rfl _ _ 26 rfl (X.heap.size + 1) 42 i0 _ 24 Try.underlying26 hi hz0 hz1 hz2 rfl (by decide) (.slice (some ⟨X.heap.size + 1, 0, none⟩) 0 0) [] rfl OB2.out _ _ _ (m.take (j + 1)) rfl NK.out LB.out LE1.out (by simp) ?_; intro A5 n5 k5 w5 hn5 ho5 hb5 hg5; have e0' := (hb5.cell (p := ⟨W2.heap.size + 1, 0, none⟩) (Nat.lt_succ_of_lt hsX)).trans J0; have e1' := (hb5.cell (p := ⟨W2.heap.size + 1, 1, none⟩) (Nat.lt_succ_of_lt hsX)).trans J1; have e2' := (hb5.cell (p := ⟨W2.heap.size + 1, 2, none⟩) (Nat.lt_succ_of_lt hsX)).trans J2; have HO5 := Lib.hid ho5; have HS5 := Lib.hid (slAt_trip1 (x := (T, P, n)) ((hb5.block X.heap.size (Nat.lt_succ_self _)).trans EB.out)); have HZ5 : Hid (X.heap.size + 1 ≤ w5.heap.size) := Nat.le_trans (by simp) hb5.size; have HZ5' : Hid (X.heap.size ≤ X.heap.size + 1) := Nat.le_succ _; have HQ5 := Lib.hid (BB.out.trans (hb5.mono (Nat.le_succ _))); have HY5 : Hid (X.heap.size ≤ X.heap.size + 1) := Nat.le_succ _; clear hn5 ho5 hb5 hg5))
                              all_goals (
                                have HA6 : Hid (SlAt tripS w6 (some ⟨b, off, none⟩) m) := HAX.out.below HBQ.out
                                have LE6 : Hid (([] ++ m.take (j + 1) ++ [(T, P, n)]).length + (m.drop (j + 1)).length ≤ 1048576) := by show _ ≤ _; simp only [List.length_append, List.length_take, List.length_drop, List.length_nil, List.length_cons]; omega
                                have ND : Hid (m.length - (j + 1) = (m.drop (j + 1)).length) := by show _ = _; rw [List.length_drop]
                                have HZ6 : Hid (X.heap.size ≤ w6.heap.size) := HBQ.out.size
                                go_wp2_with (at_builtin; refine wpList_append_slsv tripS _ rfl _ _ 26 rfl X.heap.size 42 i0 _ 24 Try.underlying26 hi hz0 hz1 hz2 rfl (by decide) _ ([] ++ m.take (j + 1) ++ [(T, P, n)]) rfl HO6.out _ _ _ (m.drop (j + 1)) rfl ND.out (HA6.out.dropIfT j c6 hcap6) LE6.out HZ6.out ?_; intro A7 n7 k7 w7 hn7 ho7 hb7; have HO7 := Lib.hid ho7; have HB7 := Lib.hid (HBX.out.trans ((HBQ.out.trans hb7).mono h3X)); clear hn7 ho7 hb7)
                                all_goals (
                                  go_roundw
                                  case rel =>
                                    refine ⟨q + 1, A7, n7, k7, by omega, by go_num, rfl, OB3.out.trans (HB7.out.mono OS3.out), ?_⟩
                                    have := HO7.out
                                    rw [take_drop_gPut HKE.out, OSN2.out] at this
                                    exact this.base (Nat.le_trans OS4.out h3X)
                                  case measure => (simp [intOf]; omega)))
                          · have d2 : (T == v1) = false := by simp [h2]
                            go_wp2
                            go_quiet (fail)
                            go_wp2
                            have HKE : Hid (j + 1 = gK mLt (0, 0, 0) m (T, P, n) m.length) := HS.out (by simp [mLt, *])
                            obtain ⟨X, hX⟩ : ∃ X, X = W4.drewN nq := ⟨_, rfl⟩
                            have HBX : Hid (Below W3.heap.size W3 X) := by rw [hX]; exact ⟨HB4.out.os, HB4.out.tape, HB4.out.output, HB4.out.size, HB4.out.block⟩
                            have HAX : Hid (SlAt tripS X (some ⟨b, off, none⟩) m) := HM3.out.below HBX.out
                            have x0 : X.cell? ⟨W2.heap.size + 1, 0, none⟩ = some (.int .i64 T) := Below.cell_some HBX.out Z0.out
                            have x1 : X.cell? ⟨W2.heap.size + 1, 1, none⟩ = some (.int .i64 P) := Below.cell_some HBX.out Z1.out
                            have x2 : X.cell? ⟨W2.heap.size + 1, 2, none⟩ = some (.int .i64 n) := Below.cell_some HBX.out Z2.out
                            have hsX : W2.heap.size + 1 < X.heap.size := Nat.lt_of_lt_of_le HZ3.out HBX.out.size
                            have h3X : W3.heap.size ≤ X.heap.size := HBX.out.size
                            rw [← hX]
                            clear hX z0 z1 z2
                            have p0 : X.drew.cell? ⟨W2.heap.size + 1, 0, none⟩ = some (.int .i64 T) := x0
                            have p1 : X.drew.cell? ⟨W2.heap.size + 1, 1, none⟩ = some (.int .i64 P) := x1
                            have p2 : X.drew.cell? ⟨W2.heap.size + 1, 2, none⟩ = some (.int .i64 n) := x2
                            have D0 : (X.alloc (Obj.cells #[] 42)).drew.cell? ⟨W2.heap.size + 1, 0, none⟩ = some (.int .i64 T) := alloc_some x0 _
                            have D1 : (X.alloc (Obj.cells #[] 42)).drew.cell? ⟨W2.heap.size + 1, 1, none⟩ = some (.int .i64 P) := alloc_some x1 _
                            have D2 : (X.alloc (Obj.cells #[] 42)).drew.cell? ⟨W2.heap.size + 1, 2, none⟩ = some (.int .i64 n) := alloc_some x2 _
                            have F0 : (X.alloc (Obj.cells #[.int .i64 T, .int .i64 P, .int .i64 n] 42)).drew.cell? ⟨W2.heap.size + 1, 0, none⟩ = some (.int .i64 T) := alloc_some x0 _
                            have F1 : (X.alloc (Obj.cells #[.int .i64 T, .int .i64 P, .int .i64 n] 42)).drew.cell? ⟨W2.heap.size + 1, 1, none⟩ = some (.int .i64 P) := alloc_some x1 _
                            have F2 : (X.alloc (Obj.cells #[.int .i64 T, .int .i64 P, .int .i64 n] 42)).drew.cell? ⟨W2.heap.size + 1, 2, none⟩ = some (.int .i64 n) := alloc_some x2 _
                            have G0 : ((X.alloc (Obj.cells #[] 42)).alloc (Obj.cells #[.int .i64 T, .int .i64 P, .int .i64 n] 42)).drew.cell? ⟨W2.heap.size + 1, 0, none⟩ = some (.int .i64 T) := alloc_some (alloc_some x0 _) _
                            have G1 : ((X.alloc (Obj.cells #[] 42)).alloc (Obj.cells #[.int .i64 T, .int .i64 P, .int .i64 n] 42)).drew.cell? ⟨W2.heap.size + 1, 1, none⟩ = some (.int .i64 P) := alloc_some (alloc_some x1 _) _
                            have G2 : ((X.alloc (Obj.cells #[] 42)).alloc (Obj.cells #[.int .i64 T, .int .i64 P, .int .i64 n] 42)).drew.cell? ⟨W2.heap.size + 1, 2, none⟩ = some (.int .i64 n) := alloc_some (alloc_some x2 _) _
                            have J0 : ((X.alloc (Obj.cells #[.int .i64 T, .int .i64 P, .int .i64 n] 42)).alloc (Obj.cells #[] 42)).drew.cell? ⟨W2.heap.size + 1, 0, none⟩ = some (.int .i64 T) := alloc_some (alloc_some x0 _) _
                            have J1 : ((X.alloc (Obj.cells #[.int .i64 T, .int .i64 P, .int .i64 n] 42)).alloc (Obj.cells #[] 42)).drew.cell? ⟨W2.heap.size + 1, 1, none⟩ = some (.int .i64 P) := alloc_some (alloc_some x1 _) _
                            have J2 : ((X.alloc (Obj.cells #[.int .i64 T, .int .i64 P, .int .i64 n] 42)).alloc (Obj.cells #[] 42)).drew.cell? ⟨W2.heap.size + 1, 2, none⟩ = some (.int .i64 n) := alloc_some (alloc_some x2 _) _
                            have BA1 : Hid (Below X.heap.size X (X.alloc (Obj.cells #[] 42)).drew) := (((Below.refl _ X).alloc (Nat.le_refl _) _).drew)
                            have BA2 : Hid (Below X.heap.size X ((X.alloc (Obj.cells #[] 42)).alloc (Obj.cells #[.int .i64 T, .int .i64 P, .int .i64 n] 42)).drew) := ((((Below.refl _ X).alloc (Nat.le_refl _) _).alloc (by simp) _).drew)
                            have BB : Hid (Below X.heap.size X ((X.alloc (Obj.cells #[.int .i64 T, .int .i64 P, .int .i64 n] 42)).alloc (Obj.cells #[] 42)).drew) := ((((Below.refl _ X).alloc (Nat.le_refl _) _).alloc (by simp) _).drew)
                            have OA1 : Hid (SlOwn tripS (X.alloc (Obj.cells #[] 42)).drew X.heap.size 42 (.slice (some ⟨X.heap.size, 0, none⟩) 0 0) []) := own_empty tripS X _
                            have OA2 : Hid (SlOwn tripS ((X.alloc (Obj.cells #[] 42)).alloc (Obj.cells #[.int .i64 T, .int .i64 P, .int .i64 n] 42)).drew X.heap.size 42 (.slice (some ⟨X.heap.size, 0, none⟩) 0 0) []) := (own_empty tripS X 42).below (((Below.refl _ _).alloc (Nat.le_refl _) _).drew)
                            have OB2 : Hid (SlOwn tripS ((X.alloc (Obj.cells #[.int .i64 T, .int .i64 P, .int .i64 n] 42)).alloc (Obj.cells #[] 42)).drew (X.heap.size + 1) 42 (.slice (some ⟨X.heap.size + 1, 0, none⟩) 0 0) []) := own_empty_n tripS (X.alloc (Obj.cells #[.int .i64 T, .int .i64 P, .int .i64 n] 42)) _ (by simp)
                            have LA1 : Hid (SlAt tripS (X.alloc (Obj.cells #[] 42)).drew (some ⟨b, off, none⟩) (m.take (j + 1))) := (HAX.out.below BA1.out).take _
                            have LA2 : Hid (SlAt tripS ((X.alloc (Obj.cells #[] 42)).alloc (Obj.cells #[.int .i64 T, .int .i64 P, .int .i64 n] 42)).drew (some ⟨b, off, none⟩) (m.take (j + 1))) := (HAX.out.below BA2.out).take _
                            have LB : Hid (SlAt tripS ((X.alloc (Obj.cells #[.int .i64 T, .int .i64 P, .int .i64 n] 42)).alloc (Obj.cells #[] 42)).drew (some ⟨b, off, none⟩) (m.take (j + 1))) := (HAX.out.below BB.out).take _
                            have NK : Hid (j + 1 = (m.take (j + 1)).length) := by show _ = _; simp only [List.length_take]; omega
                            have LE1 : Hid (([] : List (Int × Int × Int)).length + (m.take (j + 1)).length ≤ 1048576) := by show _ ≤ _; simp only [List.length_take, List.length_nil]; omega
                            have LE2 : Hid (([] ++ m.take (j + 1)).length + [(T, P, n)].length ≤ 1048576) := by show _ ≤ _; simp only [List.length_append, List.length_take, List.length_nil, List.length_cons]; omega
                            have EA2 : Hid (((X.alloc (Obj.cells #[] 42)).alloc (Obj.cells #[.int .i64 T, .int .i64 P, .int .i64 n] 42)).drew.heap[X.heap.size + 1]? = some (Obj.cells #[.int .i64 T, .int .i64 P, .int .i64 n] 42)) := heap_new (w := X.alloc (Obj.cells #[] 42)) (by simp)
                            have EB : Hid (((X.alloc (Obj.cells #[.int .i64 T, .int .i64 P, .int .i64 n] 42)).alloc (Obj.cells #[] 42)).drew.heap[X.heap.size]? = some (Obj.cells #[.int .i64 T, .int .i64 P, .int .i64 n] 42)) := (((Below.refl (X.heap.size + 1) (X.alloc (Obj.cells #[.int .i64 T, .int .i64 P, .int .i64 n] 42))).alloc (by simp) (Obj.cells #[] 42)).block X.heap.size (by omega)).trans (heap_new (w := X) rfl)
                            go_region_held3 (fun w' => w'.cell? ⟨W2.heap.size + 1, 0, none⟩ = some (.int .i64 T) ∧ w'.cell? ⟨W2.heap.size + 1, 1, none⟩ = some (.int .i64 P) ∧ w'.cell? ⟨W2.heap.size + 1, 2, none⟩ = some (.int .i64 n))
                              (first | exact ⟨c0'', c1'', c2''⟩ | exact ⟨e0', e1', e2'⟩ | exact ⟨c0', c1', c2'⟩ | exact ⟨D0, D1, D2⟩ | exact ⟨F0, F1, F2⟩ | exact ⟨G0, G1, G2⟩ | exact ⟨J0, J1, J2⟩ | go_keep)
                              (first
                                | (refine step_append_slsv tripS _ rfl _ _ 26 rfl _ 42 i0 _ 24 Try.underlying26 hi hz0 hz1 hz2 rfl (by decide) _ ([] ++ m.take (j + 1)) rfl HO5.out _ 1 1 [(T, P, n)] rfl rfl HS5.out LE2.out HZ5.out ?_; intro A6 n6 k6 w6 hn6 ho6 hb6 hg6; have HN6 := Lib.hid hn6; have HO6 : Hid (SlOwn tripS w6 X.heap.size 42 (.slice A6 n6 k6) ([] ++ m.take (j + 1) ++ [(T, P, n)])) := ho6.base HZ5'.out; have HBQ := Lib.hid (HQ5.out.trans (hb6.mono HY5.out)); have c0'' := (hb6.cell (p := ⟨W2.heap.size + 1, 0, none⟩) (Nat.lt_of_lt_of_le hsX HZ5'.out)).trans e0'; have c1'' := (hb6.cell (p := ⟨W2.heap.size + 1, 1, none⟩) (Nat.lt_of_lt_of_le hsX HZ5'.out)).trans e1'; have c2'' := (hb6.cell (p := ⟨W2.heap.size + 1, 2, none⟩) (Nat.lt_of_lt_of_le hsX HZ5'.out)).trans e2'; clear hn6 ho6 hb6 hg6)
                                | (refine step_append_slsv tripS _ rfl _ _ 26 rfl X.heap.size 42 i0 _ 24 Try.underlying26 hi hz0 hz1 hz2 rfl (by decide) (.slice (some ⟨X.heap.size, 0, none⟩) 0 0) [] rfl OA1.out _ _ _ (m.take (j + 1)) rfl NK.out LA1.out LE1.out (by simp) ?_; intro A5 n5 k5 w5 hn5 ho5 hb5 hg5; have c0' := (hb5.cell (p := ⟨W2.heap.size + 1, 0, none⟩) hsX).trans D0; have c1' := (hb5.cell (p := ⟨W2.heap.size + 1, 1, none⟩) hsX).trans D1; have c2' := (hb5.cell (p := ⟨W2.heap.size + 1, 2, none⟩) hsX).trans D2; have e0' := alloc_some c0' (Obj.cells #[.int .i64 T, .int .i64 P, .int .i64 n] 42); have e1' := alloc_some c1' (Obj.cells #[.int .i64 T, .int .i64 P, .int .i64 n] 42); have e2' := alloc_some c2' (Obj.cells #[.int .i64 T, .int .i64 P, .int .i64 n] 42); have HO5 := Lib.hid (ho5.below ((Below.refl _ _).alloc (Nat.le_refl _) (Obj.cells #[.int .i64 T, .int .i64 P, .int .i64 n] 42))); have HS5 := Lib.hid (slAt_trip1 (x := (T, P, n)) (heap_new (w := w5) (o := (Obj.cells #[.int .i64 T, .int .i64 P, .int .i64 n] 42)) rfl)); have HZ5 : Hid (X.heap.size ≤ (w5.alloc (Obj.cells #[.int .i64 T, .int .i64 P, .int .i64 n] 42)).heap.size) := Nat.le_trans (BA1.out.trans hb5).size ((Below.refl 0 w5).alloc (Nat.zero_le _) _).size; have HZ5' : Hid (X.heap.size ≤ X.heap.size) := Nat.le_refl _; have HQ5 := Lib.hid ((BA1.out.trans hb5).alloc (BA1.out.trans hb5).size (Obj.cells #[.int .i64 T, .int .i64 P, .int .i64 n] 42)); have HY5 : Hid (X.heap.size ≤ X.heap.size) := Nat.le_refl _; clear hn5 ho5 hb5 hg5)
                                | (refine step_append_slsv tripS _ rfl _ _ 26 rfl X.heap.size 42 i0 _ 24 Try.underlying26 hi hz0 hz1 hz2 rfl (by decide) (.slice (some ⟨X.heap.size, 0, none⟩) 0 0) [] rfl OA2.out _ _ _ (m.take (j + 1)) rfl NK.out LA2.out LE1.out (by simp; omega) ?_; intro A5 n5 k5 w5 hn5 ho5 hb5 hg5; have e0' := (hb5.cell (p := ⟨W2.heap.size + 1, 0, none⟩) hsX).trans G0; have e1' := (hb5.cell (p := ⟨W2.heap.size + 1, 1, none⟩) hsX).trans G1; have e2' := (hb5.cell (p := ⟨W2.heap.size + 1, 2, none⟩) hsX).trans G2; have HO5 := Lib.hid ho5; have HS5 := Lib.hid (slAt_trip1 (x := (T, P, n)) ((hg5.block (X.heap.size + 1) (Array.getElem?_eq_some_iff.1 EA2.out).1 (by simp [Value.ownBlock])).trans EA2.out)); have HZ5 : Hid (X.heap.size ≤ w5.heap.size) := (BA2.out.trans hb5).size; have HZ5' : Hid (X.heap.size ≤ X.heap.size) := Nat.le_refl _; have HQ5 := Lib.hid (BA2.out.trans hb5); have HY5 : Hid (X.heap.size ≤ X.heap.size) := Nat.le_refl _; clear hn5 ho5 hb5 hg5)
                                | (refine step_append_slsv tripS _ rfl _ _ 26 rfl (X.heap.size + 1) 42 i0 _ 24 Try.underlying26 hi hz0 hz1 hz2 rfl (by decide) (.slice (some ⟨X.heap.size + 1, 0, none⟩) 0 0) [] rfl OB2.out _ _ _ (m.take (j + 1)) rfl NK.out LB.out LE1.out (by simp) ?_; intro A5 n5 k5 w5 hn5 ho5 hb5 hg5; have e0' := (hb5.cell (p := ⟨W2.heap.size + 1, 0, none⟩) (Nat.lt_succ_of_lt hsX)).trans J0; have e1' := (hb5.cell (p := ⟨W2.heap.size + 1, 1, none⟩) (Nat.lt_succ_of_lt hsX)).trans J1; have e2' := (hb5.cell (p := ⟨W2.heap.size + 1, 2, none⟩) (Nat.lt_succ_of_lt hsX)).trans J2; have HO5 := Lib.hid ho5; have HS5 := Lib.hid (slAt_trip1 (x := (T, P, n)) ((hb5.block X.heap.size (Nat.lt_succ_self _)).trans EB.out)); have HZ5 : Hid (X.heap.size + 1 ≤ w5.heap.size) := Nat.le_trans (by simp) hb5.size; have HZ5' : Hid (X.heap.size ≤ X.heap.size + 1) := Nat.le_succ _; have HQ5 := Lib.hid (BB.out.trans (hb5.mono (Nat.le_succ _))); have HY5 : Hid (X.heap.size ≤ X.heap.size + 1) := Nat.le_succ _; clear hn5 ho5 hb5 hg5))
                            all_goals (
                              have HA6 : Hid (SlAt tripS w6 (some ⟨b, off, none⟩) m) := HAX.out.below HBQ.out
                              have LE6 : Hid (([] ++ m.take (j + 1) ++ [(T, P, n)]).length + (m.drop (j + 1)).length ≤ 1048576) := by show _ ≤ _; simp only [List.length_append, List.length_take, List.length_drop, List.length_nil, List.length_cons]; omega
                              have ND : Hid (m.length - (j + 1) = (m.drop (j + 1)).length) := by show _ = _; rw [List.length_drop]
                              have HZ6 : Hid (X.heap.size ≤ w6.heap.size) := HBQ.out.size
                              go_wp2_with (at_builtin; refine wpList_append_slsv tripS _ rfl _ _ 26 rfl X.heap.size 42 i0 _ 24 Try.underlying26 hi hz0 hz1 hz2 rfl (by decide) _ ([] ++ m.take (j + 1) ++ [(T, P, n)]) rfl HO6.out _ _ _ (m.drop (j + 1)) rfl ND.out (HA6.out.dropIfT j c6 hcap6) LE6.out HZ6.out ?_; intro A7 n7 k7 w7 hn7 ho7 hb7; have HO7 := Lib.hid ho7; have HB7 := Lib.hid (HBX.out.trans ((HBQ.out.trans hb7).mono h3X)); clear hn7 ho7 hb7)
                              all_goals (
                                go_roundw
                                case rel =>
                                  refine ⟨q + 1, A7, n7, k7, by omega, by go_num, rfl, OB3.out.trans (HB7.out.mono OS3.out), ?_⟩
                                  have := HO7.out
                                  rw [take_drop_gPut HKE.out, OSN2.out] at this
                                  exact this.base (Nat.le_trans OS4.out h3X)
                                case measure => (simp [intOf]; omega)))
              · have OSQ : Hid (rowS L l k (q + 1) = rowS L l k q) := by show _ = _; rw [OSQ'.out, if_pos (Or.inr (by simp)), List.append_nil]
                go_wp2
                go_roundw
                case rel =>
                  have hbb : Below W2.heap.size W2 (W2.alloc (Obj.cells #[Value.int IntKind.i64 y1, Value.int IntKind.i64 1] 67)) := (Below.refl _ _).alloc (Nat.le_refl _) _
                  refine ⟨q + 1, A6, n6, c6, by omega, by go_num, rfl, OB2.out.trans (hbb.mono OSZ.out), ?_⟩
                  rw [OSQ.out]
                  exact OO2'.out.below hbb
                case measure => simp [intOf]; omega
          · obtain rfl : q = N := by omega
            go_wp2
            go_roundw
            case rel =>
              refine ⟨k + 1, A6, n6, c6, by omega, by go_num, rfl, OB.out.trans ((OBa.out.trans (OB2.out.mono (by simp))).mono hs), ?_⟩
              rw [OSN.out, HN.out]
              exact OO2'.out
            case measure => simp [intOf]; omega
    · obtain rfl : k = l.length := by omega
      have hn3 := Lib.hid (own_len OO.out)
      have HF : Hid (mAllS (genS L l l.length) = meL L l) := rfl
      go_wp2
      go_ret
      refine ⟨A3, n3, c3, rfl, by rw [hn3.out, HF.out], ?_, ((Below.refl _ _).alloc (Nat.le_refl _) _).trans (OB.out.mono (by simp))⟩
      have := OO.out
      rw [HF.out] at this
      exact this.base (Nat.le_succ _)
end Go.Proofs.Ytdgcdlcfddjmiaa
