/- FallsOfRod on both sides. -/
import Derived.Test.YtiledncedekefaaLast
import Derived.Test.YtiledncedekefaaPutI
import Derived.Test.YtiledncedekefaaBridgeB
import Derived.Test.YtiledncedekefaaStRod
namespace Go.Proofs.Ytiledncedekefaa
open Go.RowKit

def leF (L : Int) (l : List (Int × Int)) : List Int := (way (-1) (gsOf L l)).map ft
def riF (L : Int) (l : List (Int × Int)) : List Int := (way 1 (gsOf L l)).map ft
theorem falls_parts (L : Int) (l : List (Int × Int)) : fallsOf L l = leF L l ++ riF L l := by unfold fallsOf fallAs leF riF; rw [List.map_append]
theorem leF_len (L : Int) (l : List (Int × Int)) : (leF L l).length = nL L l := by unfold leF nL; rw [List.length_map]
theorem gs_pw {L : Int} {l : List (Int × Int)} (hg : goodB L l = true) : (gsOf L l).Pairwise fun a b => antLt (a.1, a.2.1) (b.1, b.2.1) = true := by
  unfold gsOf
  rw [List.pairwise_map, List.pairwise_iff_getElem]
  intro i j hi hj hij
  have := good_lt hg i j hij hj
  rw [List.getD_eq_getElem?_getD, List.getD_eq_getElem?_getD, List.getElem?_eq_getElem hi, List.getElem?_eq_getElem hj] at this
  exact this
theorem way_pw {L : Int} {l : List (Int × Int)} (hg : goodB L l = true) (y : Int) : (way y (gsOf L l)).Pairwise fun a b => a.1 < b.1 := by
  have h := (gs_pw hg).filter (fun g => g.2.1 == y)
  refine (List.pairwise_iff_getElem.2 fun i j hi hj hij => ?_)
  have h1 := List.pairwise_iff_getElem.1 h i j hi hj hij
  have m1 : ((way y (gsOf L l))[i]).2.1 = y := (way_mem (List.getElem_mem hi)).2
  have m2 : ((way y (gsOf L l))[j]).2.1 = y := (way_mem (List.getElem_mem hj)).2
  rw [antLt_iff] at h1
  have e1 : (List.filter (fun g => g.2.1 == y) (gsOf L l))[i] = (way y (gsOf L l))[i] := rfl
  have e2 : (List.filter (fun g => g.2.1 == y) (gsOf L l))[j] = (way y (gsOf L l))[j] := rfl
  rw [e1, e2, m1, m2] at h1
  simp only at h1
  omega
theorem leF_up {L : Int} {l : List (Int × Int)} (hg : goodB L l = true) : Up (leF L l) := by
  unfold leF Up
  rw [List.pairwise_map]
  refine List.pairwise_iff_getElem.2 fun i j hi hj hij => ?_
  have h1 := List.pairwise_iff_getElem.1 (way_pw hg (-1)) i j hi hj hij
  have m1 := (way_mem (List.getElem_mem hi)).2
  have m2 := (way_mem (List.getElem_mem hj)).2
  unfold ft
  rw [if_pos m1, if_pos m2]
  exact h1
theorem riF_down {L : Int} {l : List (Int × Int)} (hg : goodB L l = true) : (riF L l).Pairwise fun a b => b < a := by
  unfold riF
  rw [List.pairwise_map]
  refine List.pairwise_iff_getElem.2 fun i j hi hj hij => ?_
  have h1 := List.pairwise_iff_getElem.1 (way_pw hg 1) i j hi hj hij
  have m1 := (way_mem (List.getElem_mem hi)).2
  have m2 := (way_mem (List.getElem_mem hj)).2
  have l1 := (gsOf_good hg _ (way_mem (List.getElem_mem hi)).1).2
  have l2 := (gsOf_good hg _ (way_mem (List.getElem_mem hj)).1).2
  unfold ft
  rw [if_neg (by rw [m2]; decide), if_neg (by rw [m1]; decide), l1, l2]
  omega
theorem insA_last {q : List Int} {x : Int} (h : ∀ y ∈ q, y < x) : insA q x = q ++ [x] := by
  unfold insA
  rw [List.filter_eq_self.2 (fun y hy => by simpa using h y hy), List.filter_eq_nil_iff.2 (fun y hy => by have := h y hy; simp; omega)]
theorem insA_first {q : List Int} {x : Int} (h : ∀ y ∈ q, x < y) : insA q x = x :: q := by
  unfold insA
  rw [List.filter_eq_nil_iff.2 (fun y hy => by have := h y hy; simp; omega), List.filter_eq_self.2 (fun y hy => by simpa using h y hy)]
  rfl
theorem up_take {q : List Int} (h : Up q) (k : Nat) (hk : k < q.length) : Up (q.take k) ∧ q[k] ∉ q.take k ∧ insA (q.take k) q[k] = q.take (k + 1) := by
  have hb : ∀ y ∈ q.take k, y < q[k] := by
    intro y hy
    obtain ⟨j, hj, rfl⟩ := List.mem_iff_getElem.1 hy
    rw [List.length_take] at hj
    rw [List.getElem_take]
    exact List.pairwise_iff_getElem.1 h j k (by omega) hk (by omega)
  refine ⟨h.sublist (List.take_sublist _ _), fun hm => by have := hb _ hm; omega, ?_⟩
  rw [insA_last hb, List.take_succ_eq_append_getElem hk]
theorem down_take {q : List Int} (h : q.Pairwise fun a b => b < a) (k : Nat) (hk : k < q.length) : Up (q.take k).reverse ∧ q[k] ∉ (q.take k).reverse ∧ insA (q.take k).reverse q[k] = (q.take (k + 1)).reverse := by
  have hb : ∀ y ∈ (q.take k).reverse, q[k] < y := by
    intro y hy
    obtain ⟨j, hj, rfl⟩ := List.mem_iff_getElem.1 (List.mem_reverse.1 hy)
    rw [List.length_take] at hj
    rw [List.getElem_take]
    exact List.pairwise_iff_getElem.1 h j k (by omega) hk (by omega)
  refine ⟨?_, fun hm => by have := hb _ hm; omega, ?_⟩
  · unfold Up
    rw [List.pairwise_reverse]
    exact h.sublist (List.take_sublist _ _)
  · rw [insA_first hb, List.take_succ_eq_append_getElem hk, List.reverse_append]
    rfl
/-- what FallsOfRod returns -/
def frL (L : Int) (l : List (Int × Int)) : List Int := if goodB L l then leF L l else []
def frR (L : Int) (l : List (Int × Int)) : List Int := if goodB L l then (riF L l).reverse else []
theorem fr_len (L : Int) (l : List (Int × Int)) : (frL L l).length + (frR L l).length ≤ 16 := by
  unfold frL frR
  split
  · rename_i h
    have h1 := fallsOf_len h
    have h2 := good_len h
    rw [falls_parts, List.length_append] at h1
    rw [List.length_reverse]
    omega
  · simp

set_option maxRecDepth 100000 in
set_option maxHeartbeats 4000000 in
theorem specFallsOfRod_any (L : Int) (A : Option Addr) (c : Nat) (l : List (Int × Int)) (w : World) (hA : AntsAt w A l) :
    Calls Try.prog 55 #[.agg #[.int .i64 L, .slice A l.length c]] w fun e w' => ∃ A1 n1 c1 A2 n2 c2, e = .returned (.tuple #[.slice A1 n1 c1, .slice A2 n2 c2, .bool (goodB L l)]) ∧ n1 = (frL L l).length ∧ n2 = (frR L l).length ∧ SlOwn intS w' w.heap.size 3 (.slice A1 n1 c1) (frL L l) ∧ SlOwn intS w' w.heap.size 3 (.slice A2 n2 c2) (frR L l) ∧ Below w.heap.size w w' := by
  have HA := Lib.hid (hA.alloc (Obj.cells #[Value.int IntKind.i64 L, Value.slice A l.length c] 28))
  clear hA
  cases hg : goodB L l with
  | false =>
    have HV : Hid (frL L l = [] ∧ frR L l = []) := by show _ ∧ _; unfold frL frR; rw [hg]; exact ⟨rfl, rfl⟩
    have HG : Hid (∀ w, AntsAt w A l → Calls Try.prog 69 #[.agg #[.int .i64 L, .slice A l.length c]] w fun e w' => e = .returned (.bool false) ∧ Below w.heap.size w w') := fun w h => by
      rw [← hg]; exact roGood_any L A c l w h
    clear hg
    go_enter Try.func55, Try.ntmps55
    go_wp2_with fail
    refine (HG.out _ HA.out).mono ?_
    rintro e w1 ⟨rfl, hb⟩
    go_wp2
    go_ret3
    exact ⟨none, 0, 0, none, 0, 0, rfl, by rw [HV.out.1]; rfl, by rw [HV.out.2]; rfl, by rw [HV.out.1]; exact SlOwn.nil _ _ _ _, by rw [HV.out.2]; exact SlOwn.nil _ _ _ _, ((Below.refl _ _).alloc (Nat.le_refl _) _).trans (hb.mono (by simp))⟩
  | true =>
    have HV : Hid (frL L l = leF L l ∧ frR L l = (riF L l).reverse) := by show _ ∧ _; unfold frL frR; rw [hg]; exact ⟨rfl, rfl⟩
    have HG : Hid (∀ w, AntsAt w A l → Calls Try.prog 69 #[.agg #[.int .i64 L, .slice A l.length c]] w fun e w' => e = .returned (.bool true) ∧ Below w.heap.size w w') := fun w h => by
      rw [← hg]; exact roGood_any L A c l w h
    have hn := good_len hg
    have HRF := Lib.hid (fun w h => roFalls_good L A c l w hg h)
    have HRL := Lib.hid (fun w h => roLeft_good L A c l w hg h)
    have HLU := Lib.hid (leF_up hg)
    have HRD := Lib.hid (riF_down hg)
    have hfl : (leF L l).length + (riF L l).length = l.length := by have := fallsOf_len hg; rw [falls_parts, List.length_append] at this; exact this
    rw [← leF_len L l] at HRL
    rw [falls_parts] at HRF
    have HFL := Lib.hid hfl
    clear hg hfl
    generalize leF L l = X at *
    generalize riF L l = Y at *
    go_enter Try.func55, Try.ntmps55
    go_wp2_with fail
    refine (HG.out _ HA.out).mono ?_
    rintro e w1 ⟨rfl, hb⟩
    have c0 : w1.cell? ⟨w.heap.size, 0, none⟩ = some (.int .i64 L) := by rw [hb.cell (p := ⟨w.heap.size, 0, none⟩) (by simp)]; simp
    have c1 : w1.cell? ⟨w.heap.size, 1, none⟩ = some (.slice A l.length c) := by rw [hb.cell (p := ⟨w.heap.size, 1, none⟩) (by simp)]; simp
    have HB := Lib.hid (((Below.refl _ w).alloc (Nat.le_refl _) _).trans (hb.mono (by simp)))
    have HA1 := Lib.hid (HA.out.below hb)
    have hs1 : w.heap.size < w1.heap.size := by have := hb.size; simp at this; omega
    clear hb
    go_wp2_with fail
    refine (HRF.out _ HA1.out).mono ?_
    rintro e w2 ⟨A2, n2, k2, rfl, hn2, ho2, hb2⟩
    have hn2' : n2 = l.length := by rw [hn2, List.length_append]; exact HFL.out
    subst hn2'
    have c0 := Below.cell_some hb2 c0
    have c1 := Below.cell_some hb2 c1
    have HB2 := Lib.hid (HB.out.trans (hb2.mono HB.out.size))
    have HA2 := Lib.hid (HA1.out.below hb2)
    have HS2 := Lib.hid ho2.sl
    have hs2 : w.heap.size < w2.heap.size := by have := hb2.size; omega
    clear hb2 ho2 hn2
    go_wp2
    go_loopw [5, 6, 15] (fun a b i wr => ∃ (k : Nat) (A5 : Option Addr) (n5 c5 : Nat) (A6 : Option Addr) (n6 c6 : Nat), k ≤ l.length ∧ i = .int .i64 k ∧ a = .slice A5 n5 c5 ∧ b = .slice A6 n6 c6 ∧ Below w2.heap.size w2 wr ∧
        SlOwn intS wr w2.heap.size 3 (.slice A5 n5 c5) (X.take k) ∧ SlOwn intS wr w2.heap.size 3 (.slice A6 n6 c6) (Y.take (k - X.length)).reverse)
      (fun _ _ i _ => l.length - (intOf i).toNat)
    case atStart => exact ⟨0, none, 0, 0, none, 0, 0, Nat.zero_le _, rfl, rfl, rfl, Below.refl _ _, SlOwn.nil _ _ _ _, by rw [Nat.zero_sub]; exact SlOwn.nil _ _ _ _⟩
    case round =>
      obtain ⟨k, A5, n5, c5, A6, n6, c6, hk, rfl, rfl, rfl, hbr, ho5, ho6⟩ := hrel
      have HBr := Lib.hid hbr
      have HO5 := Lib.hid ho5
      have HO6 := Lib.hid ho6
      have c0 := Below.cell_some hbr c0
      have c1 := Below.cell_some hbr c1
      have hsr := hbr.size
      clear hbr ho5 ho6
      by_cases hlt : k < l.length
      · have hkl : (k : Int) < (l.length : Int) := by omega
        have hXY : k < (X ++ Y).length := by rw [List.length_append]; have := HFL.out; omega
        obtain ⟨b, off, rfl, l0, hc⟩ := (HS2.out.below HBr.out).int_at hXY
        have a0 := hc k _ (List.getElem?_eq_getElem hXY)
        clear hc
        by_cases hkx : k < X.length
        · have hx : (X ++ Y)[k] = X[k] := List.getElem_append_left hkx
          rw [hx] at a0
          obtain ⟨u1, u2, u3⟩ := up_take HLU.out k hkx
          have hyz : k - X.length = k + 1 - X.length := by omega
          have HYZ := Lib.hid hyz
          generalize X[k] = x at *
          have HP : Hid (∀ W, Below wr.heap.size wr W → Calls Try.prog 95 #[.slice A5 n5 c5, .int .i64 x] W fun e w' => ∃ A' n' c', e = .returned (.slice A' n' c') ∧ n' = (insA (X.take k) x).length ∧ SlOwn intS w' W.heap.size 3 (.slice A' n' c') (insA (X.take k) x) ∧ Below W.heap.size W w') := fun W hW => by
            have e := own_lenR HO5.out
            have h2 := SlOwn.below HO5.out hW
            rw [e] at h2 ⊢
            exact put_any _ A5 c5 (X.take k) x W u1 u2 (by rw [List.length_take]; have := HFL.out; omega) h2
          rw [u3] at HP
          have hkx2 : (k : Int) < (X.length : Int) := by omega
          clear u1 u2 u3 hx hyz hXY
          go_wp2_with fail
          refine (HRL.out _ (HA2.out.below HBr.out)).mono ?_
          rintro e w3 ⟨rfl, hb3⟩
          have HB3 := Lib.hid hb3
          clear hb3
          go_wp2_with fail
          refine (HP.out _ HB3.out).mono ?_
          rintro e w4 ⟨A7, n7, c7, rfl, hn7, ho7, hb7⟩
          have HB7 := Lib.hid (HB3.out.trans (hb7.mono HB3.out.size))
          have HO7 := Lib.hid ho7
          have hs7 := HB3.out.size
          clear hb7 ho7 hn7
          go_wp2
          go_roundw
          case rel => exact ⟨k + 1, A7, n7, c7, A6, n6, c6, by omega, by go_num, rfl, rfl, HBr.out.trans (HB7.out.mono hsr), ownsRow_base HO7.out (by omega), by rw [← HYZ.out]; exact HO6.out.below HB7.out⟩
          case measure => simp [intOf]; omega
        · have hky : k - X.length < Y.length := by have := HFL.out; omega
          have hx : (X ++ Y)[k] = Y[k - X.length] := List.getElem_append_right (by omega)
          rw [hx] at a0
          obtain ⟨u1, u2, u3⟩ := down_take HRD.out (k - X.length) hky
          have htk : X.take k = X.take (k + 1) := by rw [List.take_of_length_le (by omega), List.take_of_length_le (by omega)]
          have hyz : k - X.length + 1 = k + 1 - X.length := by omega
          rw [hyz] at u3
          have HTK := Lib.hid htk
          generalize Y[k - X.length] = x at *
          have HP : Hid (∀ W, Below wr.heap.size wr W → Calls Try.prog 95 #[.slice A6 n6 c6, .int .i64 x] W fun e w' => ∃ A' n' c', e = .returned (.slice A' n' c') ∧ n' = (insA (Y.take (k - X.length)).reverse x).length ∧ SlOwn intS w' W.heap.size 3 (.slice A' n' c') (insA (Y.take (k - X.length)).reverse x) ∧ Below W.heap.size W w') := fun W hW => by
            have e := own_lenR HO6.out
            have h2 := SlOwn.below HO6.out hW
            rw [e] at h2 ⊢
            exact put_any _ A6 c6 _ x W u1 u2 (by rw [List.length_reverse, List.length_take]; have := HFL.out; omega) h2
          rw [u3] at HP
          have hkx2 : ¬ (k : Int) < (X.length : Int) := by omega
          clear u1 u2 u3 hx hyz htk hXY
          go_wp2_with fail
          refine (HRL.out _ (HA2.out.below HBr.out)).mono ?_
          rintro e w3 ⟨rfl, hb3⟩
          have HB3 := Lib.hid hb3
          clear hb3
          go_wp2_with fail
          refine (HP.out _ HB3.out).mono ?_
          rintro e w4 ⟨A7, n7, c7, rfl, hn7, ho7, hb7⟩
          have HB7 := Lib.hid (HB3.out.trans (hb7.mono HB3.out.size))
          have HO7 := Lib.hid ho7
          have hs7 := HB3.out.size
          clear hb7 ho7 hn7
          go_wp2
          go_roundw
          case rel => exact ⟨k + 1, A5, n5, c5, A7, n7, c7, by omega, by go_num, rfl, rfl, HBr.out.trans (HB7.out.mono hsr), by rw [← HTK.out]; exact HO5.out.below HB7.out, ownsRow_base HO7.out (by omega)⟩
          case measure => simp [intOf]; omega
      · obtain rfl : k = l.length := by omega
        have hkl : ¬ (l.length : Int) < (l.length : Int) := by omega
        have HX : Hid (X.take l.length = X) := by show _ = _; exact List.take_of_length_le (by have := HFL.out; omega)
        have HY : Hid (Y.take (l.length - X.length) = Y) := by show _ = _; exact List.take_of_length_le (by have := HFL.out; omega)
        rw [HX.out] at HO5
        rw [HY.out] at HO6
        have HN5 := Lib.hid (own_lenR HO5.out)
        have HN6 := Lib.hid (own_lenR HO6.out)
        go_wp2
        go_ret3
        exact ⟨A5, n5, c5, A6, n6, c6, rfl, by rw [HV.out.1]; exact HN5.out, by rw [HV.out.2]; exact HN6.out, by rw [HV.out.1]; exact ownsRow_base HO5.out (by omega), by rw [HV.out.2]; exact ownsRow_base HO6.out (by omega), HB2.out.trans (HBr.out.mono (by omega))⟩
set_option maxRecDepth 100000 in
set_option maxHeartbeats 4000000 in
theorem implFallsOfRod_any (L : Int) (A : Option Addr) (c : Nat) (l : List (Int × Int)) (w : World) (hA : AntsAt w A l) :
    Calls Try.prog 56 #[.agg #[.int .i64 L, .slice A l.length c]] w fun e w' => ∃ A1 n1 c1 A2 n2 c2 M, e = .returned (.tuple #[.slice A1 n1 c1, .slice A2 n2 c2, .bool (goodB L l)]) ∧ n1 = (frL L l).length ∧ n2 = (frR L l).length ∧ SlOwn intS w' w.heap.size 3 (.slice A1 n1 c1) (frL L l) ∧ (∀ b, (Value.slice A1 n1 c1).ownBlock = some b → b < M) ∧ w.heap.size ≤ M ∧ SlOwn intS w' M 3 (.slice A2 n2 c2) (frR L l) ∧ Below w.heap.size w w' := by
  have HA := Lib.hid (hA.alloc (Obj.cells #[Value.int IntKind.i64 L, Value.slice A l.length c] 28))
  clear hA
  cases hg : goodB L l with
  | false =>
    have HV : Hid (frL L l = [] ∧ frR L l = []) := by show _ ∧ _; unfold frL frR; rw [hg]; exact ⟨rfl, rfl⟩
    have HG : Hid (∀ w, AntsAt w A l → Calls Try.prog 72 #[.agg #[.int .i64 L, .slice A l.length c]] w fun e w' => e = .returned (.bool false) ∧ Below w.heap.size w w') := fun w h => by
      rw [← hg]; exact isRod_any L A c l w h
    clear hg
    go_enter Try.func56, Try.ntmps56
    go_wp2_with fail
    refine (HG.out _ HA.out).mono ?_
    rintro e w1 ⟨rfl, hb⟩
    go_wp2
    go_ret3
    exact ⟨none, 0, 0, none, 0, 0, w.heap.size, rfl, by rw [HV.out.1]; rfl, by rw [HV.out.2]; rfl, by rw [HV.out.1]; exact SlOwn.nil _ _ _ _, (by intro b h; simp [Value.ownBlock] at h), Nat.le_refl _, by rw [HV.out.2]; exact SlOwn.nil _ _ _ _, ((Below.refl _ _).alloc (Nat.le_refl _) _).trans (hb.mono (by simp))⟩
  | true =>
    have HV : Hid (frL L l = (way (-1) (gsOf L l)).map ft ∧ frR L l = ((way 1 (gsOf L l)).map ft).reverse) := by show _ ∧ _; unfold frL frR; rw [hg]; exact ⟨rfl, rfl⟩
    have HG : Hid (∀ w, AntsAt w A l → Calls Try.prog 72 #[.agg #[.int .i64 L, .slice A l.length c]] w fun e w' => e = .returned (.bool true) ∧ Below w.heap.size w w') := fun w h => by
      rw [← hg]; exact isRod_any L A c l w h
    have hn := good_len hg
    have h1n : ((way (-1) (gsOf L l)).length : Int) ≤ 1000 := by have := way_len (-1) (gsOf L l); rw [gsOf_len] at this; omega
    have h2n : ((way 1 (gsOf L l)).length : Int) ≤ 1000 := by have := way_len 1 (gsOf L l); rw [gsOf_len] at this; omega
    have HL := Lib.hid (fun w h => thatL_any L A c l w hn h)
    have HR := Lib.hid (fun w h => thatR_any L A c l w hn h)
    have HGL : Hid (∀ g ∈ way (-1) (gsOf L l), GoodGhost g) := fun g h => (gsOf_good hg g (way_mem h).1).1
    have HGR : Hid (∀ g ∈ way 1 (gsOf L l), GoodGhost g) := fun g h => (gsOf_good hg g (way_mem h).1).1
    clear hg
    generalize way (-1) (gsOf L l) = X at *
    generalize way 1 (gsOf L l) = Y at *
    have HNX := Lib.hid (fun A c w h => numbersOf_fallTime A c X w h1n HGL.out h)
    have HNY := Lib.hid (fun A c w h => numbersOf_fallTime A c Y w h2n HGR.out h)
    have hyl : (Y.map ft).length ≤ 65536 := by rw [List.length_map]; omega
    have HYL := Lib.hid hyl
    clear hyl h1n h2n HGL HGR
    generalize X.map ft = V at *
    generalize Y.map ft = Z at *
    go_enter Try.func56, Try.ntmps56
    go_wp2_with fail
    refine (HG.out _ HA.out).mono ?_
    rintro e w1 ⟨rfl, hb⟩
    have c0 : w1.cell? ⟨w.heap.size, 0, none⟩ = some (.int .i64 L) := by rw [hb.cell (p := ⟨w.heap.size, 0, none⟩) (by simp)]; simp
    have c1 : w1.cell? ⟨w.heap.size, 1, none⟩ = some (.slice A l.length c) := by rw [hb.cell (p := ⟨w.heap.size, 1, none⟩) (by simp)]; simp
    have HB := Lib.hid (((Below.refl _ w).alloc (Nat.le_refl _) _).trans (hb.mono (by simp)))
    have HA1 := Lib.hid (HA.out.below hb)
    have hs1 : w.heap.size < w1.heap.size := by have := hb.size; simp at this; omega
    clear hb
    go_wp2_with fail
    refine (HL.out _ HA1.out).mono ?_
    rintro e w2 ⟨A2, k2, rfl, ho2, hb2⟩
    have c0 := Below.cell_some hb2 c0
    have c1 := Below.cell_some hb2 c1
    have HB2 := Lib.hid (HB.out.trans (hb2.mono HB.out.size))
    have HA2 := Lib.hid (HA1.out.below hb2)
    have hs2 := hb2.size
    have HS2 := Lib.hid ho2.sl
    clear hb2 ho2
    go_wp2_with fail
    refine (HNX.out A2 k2 w2 HS2.out).mono ?_
    rintro e w3 ⟨A3, k3, rfl, ho3, hb3⟩
    have c0 := Below.cell_some hb3 c0
    have c1 := Below.cell_some hb3 c1
    have HB3 := Lib.hid (HB2.out.trans (hb3.mono HB2.out.size))
    have HA3 := Lib.hid (HA2.out.below hb3)
    have hs3 := hb3.size
    have HO3 := Lib.hid ho3
    have I3 := Lib.hid (World.ownsRow.lt ho3)
    clear hb3 ho3
    go_wp2_with fail
    refine (HR.out _ HA3.out).mono ?_
    rintro e w4 ⟨A4, k4, rfl, ho4, hb4⟩
    have HB4 := Lib.hid (HB3.out.trans (hb4.mono HB3.out.size))
    have hs4 := hb4.size
    have HS4 := Lib.hid ho4.sl
    have HO4 := Lib.hid (HO3.out.below hb4)
    clear hb4 ho4
    go_wp2_with fail
    refine (HNY.out A4 k4 w4 HS4.out).mono ?_
    rintro e w5 ⟨A5, k5, rfl, ho5, hb5⟩
    have HB5 := Lib.hid (HB4.out.trans (hb5.mono HB4.out.size))
    have hs5 := hb5.size
    have HO5 := Lib.hid ho5
    have HP5 := Lib.hid (HO4.out.below hb5)
    clear hb5 ho5
    have HREV := Lib.hid (reverseI_any HYL.out HO5.out)
    go_wp2_with fail
    refine HREV.out.mono ?_
    rintro e w6 ⟨rfl, ho6, hb6⟩
    have HO6 := Lib.hid ho6
    have HB6 : Hid (Below w.heap.size w w6) := HB5.out.trans (hb6.mono (by omega))
    have HP6 : Hid (SlOwn intS w6 w2.heap.size 3 (.slice A3 V.length k3) V) := by
      refine ⟨HP5.out.1, ?_⟩
      rcases HP5.out.2 with h2 | ⟨g, cap, cur, hv, hBg, hgw, h3⟩
      · exact .inl h2
      · have hlt := (I3.out g (by rw [hv]; rfl)).2
        exact .inr ⟨g, cap, cur, hv, hBg, by rw [hb6.block g (by omega)]; exact hgw, h3⟩
    clear hb6 ho6
    go_wp2
    go_ret3
    refine ⟨A3, _, k3, A5, _, k5, w4.heap.size, rfl, by rw [HV.out.1], by rw [HV.out.2, List.length_reverse], by rw [HV.out.1]; exact ownsRow_base HP6.out (by omega), fun b hb => by have := (I3.out b hb).2; omega, by omega, by rw [HV.out.2]; exact HO6.out, HB6.out⟩
end Go.Proofs.Ytiledncedekefaa
