/- GhostsAfter and OnRodAfter on both sides. -/
import Derived.Test.YthfacfoclekcbaaRodAfter
import Derived.Test.YthfacfoclekcbaaBridgeI
namespace Go.Proofs.Ythfacfoclekcbaa
open Go.RowKit

theorem intI2 : (Try.prog.info? 3).map (fun i => (i.zero, i.size, i.bytes)) = some (some (.int .i64 0), intS.size, 8) := by kernel_rfl
theorem slAt_oneI {w : World} {g : Nat} {x : Int} {e : TypeId} {m : Nat × Nat} (h : w.heap[g]? = some (.cells #[.int .i64 x] e m)) : SlAt intS w (some ⟨g, 0, none⟩) [x] := by
  refine .inr ⟨g, 0, rfl, (Array.getElem?_eq_some_iff.1 h).1, fun k y hk j hj => ?_⟩
  cases k with
  | succ k => simp at hk
  | zero =>
    simp only [List.getElem?_cons_zero, Option.some.injEq] at hk
    subst hk
    simp only [Nat.zero_mul, Nat.zero_add]
    rw [cell_of_row w g j _ _ _ h, ← Array.getElem?_toList]
    rfl

/-- what GhostsAfter returns -/
def gaV (L : Int) (l : List (Int × Int)) (t : Int) : List Int := if raOk L l t then (srtA (afL L t l)).map Prod.fst else []
theorem gaV_len (L : Int) (l : List (Int × Int)) (t : Int) : (gaV L l t).length ≤ l.length := by
  unfold gaV
  split
  · have := afL_len L t l l.length
    rw [List.take_length] at this
    rwa [List.length_map]
  · exact Nat.zero_le _
theorem fst_sorted (m : List (Int × Int)) : ((m.map Prod.fst).mergeSort fun x y => decide (x ≤ y)) = (srtA m).map Prod.fst := by
  refine List.Perm.eq_of_pairwise (le := fun x y => decide (x ≤ y) = true) ?_ ?_ ?_ ?_
  · intro a b _ _ h1 h2
    simp only [decide_eq_true_eq] at h1 h2
    omega
  · refine List.pairwise_mergeSort ?_ ?_ _
    · intro a b c h1 h2
      simp only [decide_eq_true_eq] at *
      omega
    · intro a b
      simp only [Bool.or_eq_true, decide_eq_true_eq]
      omega
  · rw [List.pairwise_map]
    refine (srtA_srt m).imp fun {a b} h => ?_
    rw [antLe_iff] at h
    rw [decide_eq_true_eq]
    omega
  · exact (List.mergeSort_perm _ _).trans ((srtA_perm m).map Prod.fst).symm
theorem fst_snoc (m : List (Int × Int)) (k : Nat) (x : Int × Int) (hx : m[k]? = some x) : (m.take (k + 1)).map Prod.fst = (m.take k).map Prod.fst ++ [x.1] := by
  obtain ⟨hk, rfl⟩ := List.getElem?_eq_some_iff.1 hx
  rw [List.take_succ_eq_append_getElem hk, List.map_append]
  rfl
theorem ret_sb {A : Option Addr} {n n' c : Nat} {b b' : Bool} (h2 : n = n') (h3 : b = b') : Ending.returned (.tuple #[.slice A n c, .bool b]) = .returned (.tuple #[.slice A n' c, .bool b']) := by rw [h2, h3]

set_option maxRecDepth 100000 in
set_option maxHeartbeats 2000000 in
theorem specGhostsAfter_any (L : Int) (A : Option Addr) (c : Nat) (l : List (Int × Int)) (t : Int) (w : World) (hA : AntsAt w A l) :
    Calls Try.prog 9 #[.agg #[.int .i64 L, .slice A l.length c], .int .i64 t] w fun e w' => ∃ A' n' c', e = .returned (.tuple #[.slice A' n' c', .bool (raOk L l t)]) ∧ n' = (gaV L l t).length ∧ SlOwn intS w' w.heap.size 3 (.slice A' n' c') (gaV L l t) ∧ RowKit.Below w.heap.size w w' := by
  have HA := Lib.hid (hA.alloc (Obj.cells #[Value.int IntKind.i64 L, Value.slice A l.length c] 26))
  clear hA
  cases hg : goodB L l with
  | false =>
    have HV : Hid (gaV L l t = [] ∧ raOk L l t = false) := by show _ ∧ _; simp [gaV, raOk, hg]
    have HG : Hid (∀ w, AntsAt w A l → Calls Try.prog 27 #[.agg #[.int .i64 L, .slice A l.length c]] w fun e w' => e = .returned (.bool false) ∧ RowKit.Below w.heap.size w w') := fun w h => by
      rw [← hg]; exact roGood_any L A c l w h
    clear hg
    go_enter Try.func9, Try.ntmps9
    go_wp2_with fail
    refine (HG.out _ HA.out).mono ?_
    rintro e w1 ⟨rfl, hb⟩
    have HB := Lib.hid (((Below.refl _ w).alloc (Nat.le_refl _) (Obj.cells #[Value.int IntKind.i64 L, Value.slice A l.length c] 26)).trans (hb.mono (by simp)))
    clear hb
    go_wp2
    go_ret2
    exact ⟨none, 0, 0, ret_sb rfl HV.out.2.symm, by rw [HV.out.1]; rfl, by rw [HV.out.1]; exact SlOwn.nil intS _ _ _, HB.out⟩
  | true =>
    have HG : Hid (∀ w, AntsAt w A l → Calls Try.prog 27 #[.agg #[.int .i64 L, .slice A l.length c]] w fun e w' => e = .returned (.bool true) ∧ RowKit.Below w.heap.size w w') := fun w h => by
      rw [← hg]; exact roGood_any L A c l w h
    cases ht : timeB t with
    | false =>
      have HV : Hid (gaV L l t = [] ∧ raOk L l t = false) := by show _ ∧ _; simp [gaV, raOk, ht]
      have HT : Hid (∀ w, Calls Try.prog 28 #[.int .i64 t] w fun e w' => e = .returned (.bool false) ∧ RowKit.Below w.heap.size w w') := fun w => roTime_at t false ht w
      clear hg ht
      go_enter Try.func9, Try.ntmps9
      go_wp2_with fail
      refine (HG.out _ HA.out).mono ?_
      rintro e w1 ⟨rfl, hb⟩
      have HB := Lib.hid (((Below.refl _ w).alloc (Nat.le_refl _) (Obj.cells #[Value.int IntKind.i64 L, Value.slice A l.length c] 26)).trans (hb.mono (by simp)))
      clear hb
      go_wp2_with fail
      refine (HT.out _).mono ?_
      rintro e w2 ⟨rfl, hb2⟩
      have HB := Lib.hid (HB.out.trans (hb2.mono HB.out.size))
      clear hb2
      go_wp2
      go_ret2
      exact ⟨none, 0, 0, ret_sb rfl HV.out.2.symm, by rw [HV.out.1]; rfl, by rw [HV.out.1]; exact SlOwn.nil intS _ _ _, HB.out⟩
    | true =>
      have HV : Hid (gaV L l t = (srtA (afL L t l)).map Prod.fst ∧ raOk L l t = true) := by show _ ∧ _; simp [gaV, raOk, hg, ht]
      have HT : Hid (∀ w, Calls Try.prog 28 #[.int .i64 t] w fun e w' => e = .returned (.bool true) ∧ RowKit.Below w.heap.size w w') := fun w => roTime_at t true ht w
      have htl := timeB_le ht
      have hnl := good_len hg
      obtain ⟨hL0, hL1, _⟩ := good_hdr hg
      have HGG := Lib.hid hg
      clear hg ht
      go_enter Try.func9, Try.ntmps9
      go_wp2_with fail
      refine (HG.out _ HA.out).mono ?_
      rintro e w1 ⟨rfl, hb⟩
      have c0 : w1.cell? ⟨w.heap.size, 0, none⟩ = some (.int .i64 L) := by rw [hb.cell (p := ⟨w.heap.size, 0, none⟩) (by simp)]; simp
      have c1 : w1.cell? ⟨w.heap.size, 1, none⟩ = some (.slice A l.length c) := by rw [hb.cell (p := ⟨w.heap.size, 1, none⟩) (by simp)]; simp
      have HB := Lib.hid (((Below.refl _ w).alloc (Nat.le_refl _) (Obj.cells #[Value.int IntKind.i64 L, Value.slice A l.length c] 26)).trans (hb.mono (by simp)))
      have HA1 := Lib.hid (HA.out.below hb)
      clear hb
      go_wp2_with fail
      refine (HT.out _).mono ?_
      rintro e w2 ⟨rfl, hb2⟩
      have c0 := Below.cell_some hb2 c0
      have c1 := Below.cell_some hb2 c1
      have HB := Lib.hid (HB.out.trans (hb2.mono HB.out.size))
      have HA2 := Lib.hid (HA1.out.below hb2)
      clear hb2
      go_wp2_with fail
      refine (roGhosts_any L A c l t _ HGG.out htl.1 htl.2 HA2.out).mono ?_
      rintro e w3 ⟨A3, n3, c3, rfl, hn3, ho3, hb3⟩
      have hl3 : (srtA (afL L t l)).length ≤ l.length := by
        have := afL_len L t l l.length
        rwa [List.take_length] at this
      have HV2 : Hid ((srtA (afL L t l)).map Prod.fst = gaV L l t) := HV.out.1.symm
      generalize srtA (afL L t l) = m at *
      subst hn3
      have HB3 := Lib.hid (HB.out.trans (hb3.mono HB.out.size))
      have HM := Lib.hid ho3.ants
      clear hb3 ho3
      obtain ⟨i0, hi, hz0, hz1, hz2⟩ := info_parts intI2
      go_wp2
      go_loopw [6, 21] (fun v i wr => ∃ (k : Nat) (A5 : Option Addr) (n5 c5 : Nat), k ≤ m.length ∧ i = .int .i64 k ∧ v = .slice A5 n5 c5 ∧ RowKit.Below w3.heap.size w3 wr ∧ SlOwn intS wr w3.heap.size 3 (.slice A5 n5 c5) ((m.take k).map Prod.fst))
        (fun _ i _ => m.length - (intOf i).toNat)
      case atStart => exact ⟨0, none, 0, 0, Nat.zero_le _, rfl, rfl, Below.refl _ _, by rw [List.take_zero]; exact SlOwn.nil intS _ _ _⟩
      case round =>
        obtain ⟨k, A5, n5, c5, hk, rfl, rfl, hbr, hown⟩ := hrel
        have HBr := Lib.hid hbr
        have hsr := hbr.size
        have HMr := Lib.hid (HM.out.below hbr)
        have HO := Lib.hid hown
        clear hbr hown
        by_cases hlt : k < m.length
        · obtain ⟨b, off, rfl, l0, hc⟩ := HMr.out.at_ hlt
          obtain ⟨a0, a1⟩ := hc k hlt
          have hx : m[k]? = some (m.getD k (0, 0)) := by rw [List.getD_eq_getElem?_getD, List.getElem?_eq_getElem hlt]; rfl
          have HSN := Lib.hid (fst_snoc m k _ hx)
          have hlen : ((m.take k).map Prod.fst).length ≤ k := by rw [List.length_map, List.length_take]; omega
          have HLEN := Lib.hid hlen
          clear hc hx hlen
          generalize m.getD k (0, 0) = x at *
          obtain ⟨x1, x2⟩ := x
          simp only at a0 a1
          generalize (m.take k).map Prod.fst = q at *
          go_wp2_with (at_builtin; go_must (refine wpList_append_slsv intS _ rfl _ _ 31 rfl w3.heap.size 3 i0 _ 8 Try.underlying31 hi hz0 hz1 hz2 rfl (by decide) _ q rfl ((HO.out.below ((Below.refl _ _).alloc (Nat.le_refl _) _)).below ((Below.refl _ _).alloc (Nat.le_refl _) _)) (some ⟨wr.heap.size + 1, 0, none⟩) 1 1 [x1] rfl rfl (slAt_oneI (heap_new (by simp))) (by have := HLEN.out; simp only [List.length_cons, List.length_nil]; omega) (by simp; omega) ?_); intro A6 n6 k6 w6 hn6 hown6 hb6; clear hn6)
          go_roundw
          case rel =>
            refine ⟨k + 1, A6, n6, k6, by omega, by go_num, rfl, ?_, ?_⟩
            · exact HBr.out.trans (((((Below.refl _ wr).alloc (Nat.le_refl _) _).alloc (by simp) _).mono hsr).trans hb6)
            · rw [HSN.out]; exact hown6
          case measure => simp [intOf]; omega
        · obtain rfl : k = m.length := by omega
          have HE : Hid (m.take m.length = m) := List.take_length
          have HOE : Hid (SlOwn intS wr w3.heap.size 3 (.slice A5 n5 c5) (gaV L l t)) := by
            have := HO.out
            rwa [HE.out, HV2.out] at this
          have hn5 : n5 = (gaV L l t).length := by
            obtain ⟨_, _, he, _, _⟩ := HOE.out.form
            injection he
          have HN5 := Lib.hid hn5
          have HS := Lib.hid HB3.out.size
          clear hn5
          go_wp2
          go_ret2
          exact ⟨A5, n5, c5, ret_sb rfl HV.out.2.symm, HN5.out, HOE.out.base HS.out, HB3.out.trans (HBr.out.mono HS.out)⟩

set_option maxRecDepth 100000 in
set_option maxHeartbeats 2000000 in
theorem implGhostsAfter_any (L : Int) (A : Option Addr) (c : Nat) (l : List (Int × Int)) (t : Int) (w : World) (hA : AntsAt w A l) :
    Calls Try.prog 8 #[.agg #[.int .i64 L, .slice A l.length c], .int .i64 t] w fun e w' => ∃ A' n' c', e = .returned (.tuple #[.slice A' n' c', .bool (raOk L l t)]) ∧ n' = (gaV L l t).length ∧ SlOwn intS w' w.heap.size 3 (.slice A' n' c') (gaV L l t) ∧ RowKit.Below w.heap.size w w' := by
  have HA := Lib.hid (hA.alloc (Obj.cells #[Value.int IntKind.i64 L, Value.slice A l.length c] 26))
  clear hA
  cases hg : goodB L l with
  | false =>
    have HV : Hid (gaV L l t = [] ∧ raOk L l t = false) := by show _ ∧ _; simp [gaV, raOk, hg]
    have HG : Hid (∀ w, AntsAt w A l → Calls Try.prog 14 #[.agg #[.int .i64 L, .slice A l.length c]] w fun e w' => e = .returned (.bool false) ∧ RowKit.Below w.heap.size w w') := fun w h => by
      rw [← hg]; exact isRod_any L A c l w h
    clear hg
    go_enter Try.func8, Try.ntmps8
    go_wp2_with fail
    refine (HG.out _ HA.out).mono ?_
    rintro e w1 ⟨rfl, hb⟩
    have HB := Lib.hid (((Below.refl _ w).alloc (Nat.le_refl _) (Obj.cells #[Value.int IntKind.i64 L, Value.slice A l.length c] 26)).trans (hb.mono (by simp)))
    clear hb
    go_wp2
    go_ret2
    exact ⟨none, 0, 0, ret_sb rfl HV.out.2.symm, by rw [HV.out.1]; rfl, by rw [HV.out.1]; exact SlOwn.nil intS _ _ _, HB.out⟩
  | true =>
    have HG : Hid (∀ w, AntsAt w A l → Calls Try.prog 14 #[.agg #[.int .i64 L, .slice A l.length c]] w fun e w' => e = .returned (.bool true) ∧ RowKit.Below w.heap.size w w') := fun w h => by
      rw [← hg]; exact isRod_any L A c l w h
    cases ht : timeB t with
    | false =>
      have HV : Hid (gaV L l t = [] ∧ raOk L l t = false) := by show _ ∧ _; simp [gaV, raOk, ht]
      have HT : Hid (∀ w, Calls Try.prog 25 #[.int .i64 t] w fun e w' => e = .returned (.bool false) ∧ RowKit.Below w.heap.size w w') := fun w => isRodTime_at t false ht w
      clear hg ht
      go_enter Try.func8, Try.ntmps8
      go_wp2_with fail
      refine (HG.out _ HA.out).mono ?_
      rintro e w1 ⟨rfl, hb⟩
      have HB := Lib.hid (((Below.refl _ w).alloc (Nat.le_refl _) (Obj.cells #[Value.int IntKind.i64 L, Value.slice A l.length c] 26)).trans (hb.mono (by simp)))
      clear hb
      go_wp2_with fail
      refine (HT.out _).mono ?_
      rintro e w2 ⟨rfl, hb2⟩
      have HB := Lib.hid (HB.out.trans (hb2.mono HB.out.size))
      clear hb2
      go_wp2
      go_ret2
      exact ⟨none, 0, 0, ret_sb rfl HV.out.2.symm, by rw [HV.out.1]; rfl, by rw [HV.out.1]; exact SlOwn.nil intS _ _ _, HB.out⟩
    | true =>
      have HV : Hid (gaV L l t = (srtA (afL L t l)).map Prod.fst ∧ raOk L l t = true) := by show _ ∧ _; simp [gaV, raOk, hg, ht]
      have HT : Hid (∀ w, Calls Try.prog 25 #[.int .i64 t] w fun e w' => e = .returned (.bool true) ∧ RowKit.Below w.heap.size w w') := fun w => isRodTime_at t true ht w
      have htl := timeB_le ht
      have hnl := good_len hg
      obtain ⟨hL0, hL1, _⟩ := good_hdr hg
      have HGG := Lib.hid hg
      clear hg ht
      go_enter Try.func8, Try.ntmps8
      go_wp2_with fail
      refine (HG.out _ HA.out).mono ?_
      rintro e w1 ⟨rfl, hb⟩
      have c0 : w1.cell? ⟨w.heap.size, 0, none⟩ = some (.int .i64 L) := by rw [hb.cell (p := ⟨w.heap.size, 0, none⟩) (by simp)]; simp
      have c1 : w1.cell? ⟨w.heap.size, 1, none⟩ = some (.slice A l.length c) := by rw [hb.cell (p := ⟨w.heap.size, 1, none⟩) (by simp)]; simp
      have HB := Lib.hid (((Below.refl _ w).alloc (Nat.le_refl _) (Obj.cells #[Value.int IntKind.i64 L, Value.slice A l.length c] 26)).trans (hb.mono (by simp)))
      have HA1 := Lib.hid (HA.out.below hb)
      clear hb
      go_wp2_with fail
      refine (HT.out _).mono ?_
      rintro e w2 ⟨rfl, hb2⟩
      have c0 := Below.cell_some hb2 c0
      have c1 := Below.cell_some hb2 c1
      have HB := Lib.hid (HB.out.trans (hb2.mono HB.out.size))
      have HA2 := Lib.hid (HA1.out.below hb2)
      clear hb2
      obtain ⟨i0, hi, hz0, hz1, hz2⟩ := info_parts intI2
      go_wp2_with fail
      refine (ghostsOf_any L A c l _ hnl HA2.out).mono ?_
      rintro e w3 ⟨A3, c3, rfl, ho, hb3⟩
      have HO2 := Lib.hid ho.sl
      have HB3 := Lib.hid (HB.out.trans (hb3.mono HB.out.size))
      clear hb3 ho
      go_wp2
      go_loopw [6, 20] (fun v i wr => ∃ (k : Nat) (A5 : Option Addr) (n5 c5 : Nat), k ≤ l.length ∧ i = .int .i64 k ∧ v = .slice A5 n5 c5 ∧ RowKit.Below w3.heap.size w3 wr ∧ SlOwn intS wr w3.heap.size 3 (.slice A5 n5 c5) ((afL L t (l.take k)).map Prod.fst))
        (fun _ i _ => l.length - (intOf i).toNat)
      case atStart => exact ⟨0, none, 0, 0, Nat.zero_le _, rfl, rfl, Below.refl _ _, by rw [List.take_zero]; exact SlOwn.nil intS _ _ _⟩
      case round =>
        obtain ⟨k, A5, n5, c5, hk, rfl, rfl, hbr, hown⟩ := hrel
        have HBr := Lib.hid hbr
        have hsr := hbr.size
        have HOr := Lib.hid (HO2.out.below hbr)
        have hl3 : ((afL L t (l.take k)).map Prod.fst).length ≤ k := by
          have := afL_len L t l k
          rw [srtA_len] at this
          rwa [List.length_map]
        have HO := Lib.hid hown
        have HL3 := Lib.hid hl3
        clear hbr hl3 hown
        by_cases hlt : k < l.length
        · obtain ⟨b, off, rfl, l0, hc⟩ := HOr.out.trip_at (show k < (gsOf L l).length by simpa [gsOf] using hlt)
          have hx : l[k]? = some (l.getD k (0, 0)) := by rw [List.getD_eq_getElem?_getD, List.getElem?_eq_getElem hlt]; rfl
          have hgx : (gsOf L l)[k]? = some ((l.getD k (0, 0)).1, (l.getD k (0, 0)).2, L) := by unfold gsOf; rw [List.getElem?_map, hx]; rfl
          obtain ⟨a0, a1, a2⟩ := hc k _ hgx
          have HNO := Lib.hid (afL_no L t l k _ hx)
          have HYES := Lib.hid (afL_yes L t l k _ hx)
          obtain ⟨q0, q1, _, qw⟩ := good_ant HGG.out hx
          clear hc hx hgx
          generalize l.getD k (0, 0) = x at *
          obtain ⟨p, y⟩ := x
          simp only at a0 a1 a2 q0 q1 qw
          by_cases hf : endT L (p, y) ≤ t
          · have HF : Hid (∀ w, Calls Try.prog 31 #[.agg #[.int .i64 p, .int .i64 y, .int .i64 L], .int .i64 t] w fun e w' => e = .returned (.bool true) ∧ RowKit.Below w.heap.size w w') := fun w => hasFallen_at p y L t true (by simpa using hf) w qw q0 (by omega) (by omega) hL1
            have HSN := Lib.hid (HNO.out hf)
            clear hf
            go_wp2_with fail
            refine (HF.out _).mono ?_
            rintro e w4 ⟨rfl, hb4⟩
            go_wp2
            go_roundw
            case rel =>
              have hb5 : RowKit.Below wr.heap.size wr w4 := ((Below.refl _ _).alloc (Nat.le_refl _) _).trans (hb4.mono (by simp))
              refine ⟨k + 1, A5, n5, c5, by omega, by go_num, rfl, HBr.out.trans (hb5.mono hsr), ?_⟩
              rw [HSN.out]; exact HO.out.below hb5
            case measure => simp [intOf]; omega
          · have HF : Hid (∀ w, Calls Try.prog 31 #[.agg #[.int .i64 p, .int .i64 y, .int .i64 L], .int .i64 t] w fun e w' => e = .returned (.bool false) ∧ RowKit.Below w.heap.size w w') := fun w => hasFallen_at p y L t false (by simpa using hf) w qw q0 (by omega) (by omega) hL1
            have HSN : Hid ((afL L t (l.take (k + 1))).map Prod.fst = ((afL L t (l.take k)).map Prod.fst) ++ [(mvF t (p, y)).1]) := by
              show _ = _
              rw [HYES.out hf, List.map_append]; rfl
            have HAF : Hid (∀ w, Calls Try.prog 32 #[.agg #[.int .i64 p, .int .i64 y, .int .i64 L], .int .i64 t] w fun e w' => e = .returned (.agg #[.int .i64 (mvF t (p, y)).1, .int .i64 (mvF t (p, y)).2]) ∧ RowKit.Below w.heap.size w w') := fun w => after_b p y L t w qw (by omega) (by omega) htl.1 (by omega)
            clear hf HNO HYES
            generalize mvF t (p, y) = g at *
            obtain ⟨g1, g2⟩ := g
            have hfd : ∀ w : World, (Instr.field 42 (.agg #[.int .i64 g1, .int .i64 g2]) 0).run Try.prog w = .ok (.int .i64 g1) w := fun _ => by kernel_rfl
            generalize ((afL L t (l.take k)).map Prod.fst) = m at *
            go_wp2_with fail
            refine (HF.out _).mono ?_
            rintro e w4 ⟨rfl, hb4⟩
            have d0 : w4.cell? ⟨wr.heap.size, 0, none⟩ = some (.int .i64 p) := by rw [hb4.cell (p := ⟨wr.heap.size, 0, none⟩) (by simp)]; simp
            have d1 : w4.cell? ⟨wr.heap.size, 1, none⟩ = some (.int .i64 y) := by rw [hb4.cell (p := ⟨wr.heap.size, 1, none⟩) (by simp)]; simp
            have d2 : w4.cell? ⟨wr.heap.size, 2, none⟩ = some (.int .i64 L) := by rw [hb4.cell (p := ⟨wr.heap.size, 2, none⟩) (by simp)]; simp
            have hb5 : RowKit.Below wr.heap.size wr w4 := ((Below.refl _ _).alloc (Nat.le_refl _) _).trans (hb4.mono (by simp))
            have HB4 := Lib.hid (HBr.out.trans (hb5.mono hsr))
            have HO4 := Lib.hid (HO.out.below hb5)
            clear hb4 hb5
            go_wp2_with fail
            refine (HAF.out _).mono ?_
            rintro e w5 ⟨rfl, hb5⟩
            have HO5 := Lib.hid (HO4.out.below hb5)
            have HB5 := Lib.hid (HB4.out.trans (hb5.mono HB4.out.size))
            have hs5 : w3.heap.size ≤ w5.heap.size := HB5.out.size
            clear hb5
            go_wp2_with (at_builtin; go_must (refine wpList_append_slsv intS _ rfl _ _ 31 rfl w3.heap.size 3 i0 _ 8 Try.underlying31 hi hz0 hz1 hz2 rfl (by decide) _ m rfl (HO5.out.below ((Below.refl _ _).alloc (Nat.le_refl _) _)) (some ⟨w5.heap.size, 0, none⟩) 1 1 [g1] rfl rfl (slAt_oneI (heap_new rfl)) (by have := HL3.out; simp only [List.length_cons, List.length_nil]; omega) (by simp; omega) ?_); intro A6 n6 k6 w6 hn6 hown6 hb6; clear hn6)
            go_roundw
            case rel =>
              refine ⟨k + 1, A6, n6, k6, by omega, by go_num, rfl, ?_, ?_⟩
              · exact HB5.out.trans ((((Below.refl _ w5).alloc (Nat.le_refl _) _).mono hs5).trans hb6)
              · rw [HSN.out]; exact hown6
            case measure => simp [intOf]; omega
        · obtain rfl : k = l.length := by omega
          have HE : Hid (l.take l.length = l) := List.take_length
          have HOE : Hid (SlOwn intS wr w3.heap.size 3 (.slice A5 n5 c5) ((afL L t l).map Prod.fst)) := by
            have := HO.out
            rwa [HE.out] at this
          have hn5 : n5 = (gaV L l t).length := by
            obtain ⟨_, _, he, _, _⟩ := HOE.out.form
            injection he with _ h _
            rw [h, HV.out.1, List.length_map, List.length_map, srtA_len]
          have HN5 := Lib.hid hn5
          have HLL : Hid (((afL L t l).map Prod.fst).length ≤ 65536) := by
            have := HL3.out
            rw [HE.out] at this
            show _ ≤ _
            omega
          clear hn5
          go_wp2_with fail
          refine (sortI_any HLL.out HOE.out).mono ?_
          rintro e w4 ⟨rfl, ho4, hb4⟩
          rw [fst_sorted] at ho4
          have HO4 := Lib.hid ho4
          have HB4 := Lib.hid (HBr.out.trans hb4)
          have HS := Lib.hid HB3.out.size
          clear ho4 hb4
          go_wp2
          go_ret2
          exact ⟨A5, n5, c5, ret_sb rfl HV.out.2.symm, HN5.out, by rw [HV.out.1]; exact HO4.out.base HS.out, HB3.out.trans (HB4.out.mono HS.out)⟩

set_option maxRecDepth 100000 in
set_option maxHeartbeats 2000000 in
theorem specOnRodAfter_any (L : Int) (A : Option Addr) (c : Nat) (l : List (Int × Int)) (t : Int) (w : World) (hA : AntsAt w A l) :
    Calls Try.prog 11 #[.agg #[.int .i64 L, .slice A l.length c], .int .i64 t] w fun e w' => e = .returned (.tuple #[.int .i64 (((gaV L l t).length : Nat) : Int), .bool (raOk L l t)]) ∧ RowKit.Below w.heap.size w w' := by
  have HA := Lib.hid (hA.alloc (Obj.cells #[Value.int IntKind.i64 L, Value.slice A l.length c] 26))
  clear hA
  cases hg : goodB L l with
  | false =>
    have HV : Hid (gaV L l t = [] ∧ raOk L l t = false) := by show _ ∧ _; simp [gaV, raOk, hg]
    have HG : Hid (∀ w, AntsAt w A l → Calls Try.prog 27 #[.agg #[.int .i64 L, .slice A l.length c]] w fun e w' => e = .returned (.bool false) ∧ RowKit.Below w.heap.size w w') := fun w h => by
      rw [← hg]; exact roGood_any L A c l w h
    clear hg
    go_enter Try.func11, Try.ntmps11
    go_wp2_with fail
    refine (HG.out _ HA.out).mono ?_
    rintro e w1 ⟨rfl, hb⟩
    have HB := Lib.hid (((Below.refl _ w).alloc (Nat.le_refl _) (Obj.cells #[Value.int IntKind.i64 L, Value.slice A l.length c] 26)).trans (hb.mono (by simp)))
    clear hb
    go_wp2
    go_ret2
    exact ⟨ret_ib (by rw [HV.out.1]; rfl) HV.out.2.symm, HB.out⟩
  | true =>
    have HG : Hid (∀ w, AntsAt w A l → Calls Try.prog 27 #[.agg #[.int .i64 L, .slice A l.length c]] w fun e w' => e = .returned (.bool true) ∧ RowKit.Below w.heap.size w w') := fun w h => by
      rw [← hg]; exact roGood_any L A c l w h
    cases ht : timeB t with
    | false =>
      have HV : Hid (gaV L l t = [] ∧ raOk L l t = false) := by show _ ∧ _; simp [gaV, raOk, ht]
      have HT : Hid (∀ w, Calls Try.prog 28 #[.int .i64 t] w fun e w' => e = .returned (.bool false) ∧ RowKit.Below w.heap.size w w') := fun w => roTime_at t false ht w
      clear hg ht
      go_enter Try.func11, Try.ntmps11
      go_wp2_with fail
      refine (HG.out _ HA.out).mono ?_
      rintro e w1 ⟨rfl, hb⟩
      have HB := Lib.hid (((Below.refl _ w).alloc (Nat.le_refl _) (Obj.cells #[Value.int IntKind.i64 L, Value.slice A l.length c] 26)).trans (hb.mono (by simp)))
      clear hb
      go_wp2_with fail
      refine (HT.out _).mono ?_
      rintro e w2 ⟨rfl, hb2⟩
      have HB := Lib.hid (HB.out.trans (hb2.mono HB.out.size))
      clear hb2
      go_wp2
      go_ret2
      exact ⟨ret_ib (by rw [HV.out.1]; rfl) HV.out.2.symm, HB.out⟩
    | true =>
      have HV : Hid (gaV L l t = (srtA (afL L t l)).map Prod.fst ∧ raOk L l t = true) := by show _ ∧ _; simp [gaV, raOk, hg, ht]
      have HT : Hid (∀ w, Calls Try.prog 28 #[.int .i64 t] w fun e w' => e = .returned (.bool true) ∧ RowKit.Below w.heap.size w w') := fun w => roTime_at t true ht w
      have htl := timeB_le ht
      have hnl := good_len hg
      obtain ⟨hL0, hL1, _⟩ := good_hdr hg
      have HGG := Lib.hid hg
      clear hg ht
      go_enter Try.func11, Try.ntmps11
      go_wp2_with fail
      refine (HG.out _ HA.out).mono ?_
      rintro e w1 ⟨rfl, hb⟩
      have c0 : w1.cell? ⟨w.heap.size, 0, none⟩ = some (.int .i64 L) := by rw [hb.cell (p := ⟨w.heap.size, 0, none⟩) (by simp)]; simp
      have c1 : w1.cell? ⟨w.heap.size, 1, none⟩ = some (.slice A l.length c) := by rw [hb.cell (p := ⟨w.heap.size, 1, none⟩) (by simp)]; simp
      have HB := Lib.hid (((Below.refl _ w).alloc (Nat.le_refl _) (Obj.cells #[Value.int IntKind.i64 L, Value.slice A l.length c] 26)).trans (hb.mono (by simp)))
      have HA1 := Lib.hid (HA.out.below hb)
      clear hb
      go_wp2_with fail
      refine (HT.out _).mono ?_
      rintro e w2 ⟨rfl, hb2⟩
      have c0 := Below.cell_some hb2 c0
      have c1 := Below.cell_some hb2 c1
      have HB := Lib.hid (HB.out.trans (hb2.mono HB.out.size))
      have HA2 := Lib.hid (HA1.out.below hb2)
      clear hb2
      go_wp2_with fail
      refine (roGhosts_any L A c l t _ HGG.out htl.1 htl.2 HA2.out).mono ?_
      rintro e w3 ⟨A3, n3, c3, rfl, hn3, ho3, hb3⟩
      have HN : Hid ((n3 : Int) = (((gaV L l t).length : Nat) : Int)) := by show _ = _; rw [HV.out.1, List.length_map, hn3]
      clear hn3 ho3
      go_wp2
      go_ret2
      exact ⟨ret_ib HN.out HV.out.2.symm, HB.out.trans (hb3.mono HB.out.size)⟩

set_option maxHeartbeats 1000000 in
theorem implOnRodAfter_any (L : Int) (A : Option Addr) (c : Nat) (l : List (Int × Int)) (t : Int) (w : World) (hA : AntsAt w A l) :
    Calls Try.prog 10 #[.agg #[.int .i64 L, .slice A l.length c], .int .i64 t] w fun e w' => e = .returned (.tuple #[.int .i64 (((gaV L l t).length : Nat) : Int), .bool (raOk L l t)]) ∧ RowKit.Below w.heap.size w w' := by
  have HA := Lib.hid (hA.alloc (Obj.cells #[Value.int IntKind.i64 L, Value.slice A l.length c] 26))
  clear hA
  go_enter Try.func10, Try.ntmps10
  go_wp2_with fail
  refine (implGhostsAfter_any L A c l t _ HA.out).mono ?_
  rintro e w1 ⟨A1, n1, c1, rfl, hn1, ho1, hb1⟩
  have HN : Hid ((n1 : Int) = (((gaV L l t).length : Nat) : Int)) := by show _ = _; rw [hn1]
  clear hn1 ho1
  go_wp2
  go_ret2
  exact ⟨ret_ib HN.out rfl, ((Below.refl _ w).alloc (Nat.le_refl _) _).trans (hb1.mono (by simp))⟩

end Go.Proofs.Ythfacfoclekcbaa
