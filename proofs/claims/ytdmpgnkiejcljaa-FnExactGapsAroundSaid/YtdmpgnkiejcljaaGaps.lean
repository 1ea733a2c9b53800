/- GapsAround on both sides. -/
import Derived.Test.YtdmpgnkiejcljaaIsCirc
import Derived.Test.YtdmpgnkiejcljaaStep
import Derived.BigQuiet
namespace Go.Proofs.Ytdmpgnkiejcljaa
open Go.RowKit

theorem Below.drewN' {B : Nat} {a w : World} (h : Below B a w) (n : Nat) : Below B a (w.drewN n) := ⟨h.os, h.tape, h.output, h.size, h.block⟩
theorem intI3 : (Try.prog.info? 3).map (fun i => (i.zero, i.size, i.bytes)) = some (some (.int .i64 0), intS.size, 8) := by kernel_rfl
theorem slAt_oneJ {w : World} {g : Nat} {x : Int} {e : TypeId} {m : Nat × Nat} (h : w.heap[g]? = some (.cells #[.int .i64 x] e m)) : SlAt intS w (some ⟨g, 0, none⟩) [x] := by
  refine .inr ⟨g, 0, rfl, (Array.getElem?_eq_some_iff.1 h).1, fun k y hk j hj => ?_⟩
  cases k with
  | succ k => simp at hk
  | zero =>
    simp only [List.getElem?_cons_zero, Option.some.injEq] at hk
    subst hk
    simp only [Nat.zero_mul, Nat.zero_add]
    rw [cell_of_row w g j _ _ _ h, ← Array.getElem?_toList]
    rfl

/-- how far it is from an ant to the next one -/
def gapAt (L : Int) (l : List (Int × Int)) (i : Nat) : Int := (if i + 1 < l.length then (l.getD (i + 1) (0, 0)).1 else (l.getD 0 (0, 0)).1 + L) - (l.getD i (0, 0)).1
def gpV (L : Int) (l : List (Int × Int)) : List Int := if ciB L l then (List.range l.length).map (gapAt L l) else []
theorem gpV_len (L : Int) (l : List (Int × Int)) : (gpV L l).length ≤ l.length := by
  unfold gpV
  split
  · simp
  · exact Nat.zero_le _
theorem gap_snoc (L : Int) (l : List (Int × Int)) (k : Nat) : (List.range (k + 1)).map (gapAt L l) = (List.range k).map (gapAt L l) ++ [gapAt L l k] := by
  rw [List.range_succ, List.map_append]; rfl
theorem ret_sb2 {A : Option Addr} {n n' c : Nat} {b b' : Bool} (h2 : n = n') (h3 : b = b') : Ending.returned (.tuple #[.slice A n c, .bool b]) = .returned (.tuple #[.slice A n' c, .bool b']) := by rw [h2, h3]

set_option maxRecDepth 100000 in
set_option maxHeartbeats 2000000 in
theorem specGapsAround_any (L : Int) (A : Option Addr) (c : Nat) (l : List (Int × Int)) (w : World) (hA : AntsAt w A l) :
    Calls Try.prog 49 #[.agg #[.int .i64 L, .slice A l.length c]] w fun e w' => ∃ A' n' c', e = .returned (.tuple #[.slice A' n' c', .bool (ciB L l)]) ∧ n' = (gpV L l).length ∧ SlOwn intS w' w.heap.size 3 (.slice A' n' c') (gpV L l) ∧ Below w.heap.size w w' := by
  obtain ⟨i0, hi, hz0, hz1, hz2⟩ := info_parts intI3
  have HA := Lib.hid (hA.alloc (Obj.cells #[Value.int IntKind.i64 L, Value.slice A l.length c] 55))
  clear hA
  cases hg : ciB L l with
  | false =>
    have HV : Hid (gpV L l = []) := by show _ = _; simp [gpV, hg]
    have HG : Hid (∀ w, AntsAt w A l → Calls Try.prog 75 #[.agg #[.int .i64 L, .slice A l.length c]] w fun e w' => e = .returned (.bool false) ∧ Below w.heap.size w w') := fun w h => by
      rw [← hg]; exact ciGood_any L A c l w h
    clear hg hi
    go_enter Try.func49, Try.ntmps49
    go_wp2_with fail
    refine (HG.out _ HA.out).mono ?_
    rintro e w1 ⟨rfl, hb⟩
    go_wp2
    go_ret2
    exact ⟨none, 0, 0, rfl, by rw [HV.out]; rfl, by rw [HV.out]; exact SlOwn.nil intS _ _ _, ((Below.refl _ _).alloc (Nat.le_refl _) _).trans (hb.mono (by simp))⟩
  | true =>
    have HV : Hid (gpV L l = (List.range l.length).map (gapAt L l)) := by show _ = _; simp [gpV, hg]
    have HG : Hid (∀ w, AntsAt w A l → Calls Try.prog 75 #[.agg #[.int .i64 L, .slice A l.length c]] w fun e w' => e = .returned (.bool true) ∧ Below w.heap.size w w') := fun w h => by
      rw [← hg]; exact ciGood_any L A c l w h
    have hl := ciB_len hg
    have HGG := Lib.hid hg
    clear hg
    go_enter Try.func49, Try.ntmps49
    go_wp2_with fail
    refine (HG.out _ HA.out).mono ?_
    rintro e w1 ⟨rfl, hb⟩
    have c0 : w1.cell? ⟨w.heap.size, 0, none⟩ = some (.int .i64 L) := by rw [hb.cell (p := ⟨w.heap.size, 0, none⟩) (by simp)]; simp
    have c1 : w1.cell? ⟨w.heap.size, 1, none⟩ = some (.slice A l.length c) := by rw [hb.cell (p := ⟨w.heap.size, 1, none⟩) (by simp)]; simp
    have hs1 : w.heap.size < w1.heap.size := by have := hb.size; simp at this; omega
    have HB := Lib.hid (((Below.refl _ w).alloc (Nat.le_refl _) _).trans (hb.mono (by simp)))
    have HA1 := Lib.hid (HA.out.below hb)
    have C0 := Lib.hid c0
    have C1 := Lib.hid c1
    clear hb
    go_wp2
    go_loopw [5, 18] (fun v i wr => ∃ (k : Nat) (A5 : Option Addr) (n5 c5 : Nat), k ≤ l.length ∧ i = .int .i64 k ∧ v = .slice A5 n5 c5 ∧ Below w1.heap.size w1 wr ∧ SlOwn intS wr w1.heap.size 3 (.slice A5 n5 c5) ((List.range k).map (gapAt L l)))
      (fun _ i _ => l.length - (intOf i).toNat)
    case atStart => exact ⟨0, none, 0, 0, Nat.zero_le _, rfl, rfl, Below.refl _ _, SlOwn.nil intS _ _ _⟩
    case round =>
      clear c0 c1
      obtain ⟨k, A5, n5, c5, hk, rfl, rfl, hbr, hown⟩ := hrel
      have HBr := Lib.hid hbr
      have hsr := hbr.size
      have c0 := Below.cell_some hbr C0.out
      have c1 := Below.cell_some hbr C1.out
      have hsr0 : w.heap.size < wr.heap.size := by omega
      have HAr := Lib.hid (HA1.out.below hbr)
      have HO := Lib.hid hown
      clear hbr hown
      by_cases hlt : k < l.length
      · obtain ⟨b, off, rfl, l0, hc⟩ := HAr.out.at_ hlt
        obtain ⟨a0, a1⟩ := hc k hlt
        have HSN := Lib.hid (gap_snoc L l k)
        have q := ciB_ant HGG.out hlt
        have HLEN : Hid (((List.range k).map (gapAt L l)).length ≤ k) := by show _ ≤ _; simp
        have hnz : ¬ (l.length : Int) = 0 := by omega
        have hkw : IntKind.i64.wrap ((k : Int) + 1) = (k : Int) + 1 := IntWalk.i64_in _ (by omega)
        have hnw : IntKind.i64.wrap ((l.length : Int) - 1) = (l.length : Int) - 1 := IntWalk.i64_in _ (by omega)
        by_cases hk1 : k + 1 < l.length
        · obtain ⟨n0, n1⟩ := hc (k + 1) hk1
          have qn := ciB_ant HGG.out hk1
          have HGP : Hid (gapAt L l k = (l.getD (k + 1) (0, 0)).1 - (l.getD k (0, 0)).1) := by show _ = _; unfold gapAt; rw [if_pos hk1]
          have hr1 : ((k : Int) + 1).tmod (l.length : Int) = (k : Int) + 1 := Int.tmod_eq_of_lt (by omega) (by omega)
          have hr2 : ((k : Int) + 1) % (l.length : Int) = (k : Int) + 1 := Int.emod_eq_of_lt (by omega) (by omega)
          have hj0 : (0 : Int) ≤ (k : Int) + 1 := by omega
          have hj1 : (k : Int) + 1 < (l.length : Int) := by omega
          have hj2 : ((k : Int) + 1).toNat = k + 1 := by omega
          have he : ¬ (k : Int) = (l.length : Int) - 1 := by omega
          have hd1 : ((k : Int) == (l.length : Int) - 1) = false := by simpa using he
          clear hc n1
          generalize l.getD k (0, 0) = x at *
          generalize l.getD (k + 1) (0, 0) = y at *
          obtain ⟨x1, x2⟩ := x
          obtain ⟨y1, y2⟩ := y
          simp only at a0 a1 n0 q qn
          have hgw : IntKind.i64.wrap (y1 - x1) = y1 - x1 := IntWalk.i64_in _ (by omega)
          generalize (List.range k).map (gapAt L l) = m at *
          go_wp2
          go_quiet (fail)
          go_wp2_with (at_builtin; go_must (refine wpList_append_slsv intS _ rfl _ _ 38 rfl w1.heap.size 3 i0 _ 8 Try.underlying38 hi hz0 hz1 hz2 rfl (by decide) _ m rfl (HO.out.below ((Below.drewN' ((Below.refl _ wr).alloc (Nat.le_refl _) _) _).alloc (by simp) _)) (some ⟨wr.heap.size + 1, 0, none⟩) 1 1 [y1 - x1] rfl rfl (slAt_oneJ (heap_new (by simp))) (by have := HLEN.out; simp only [List.length_cons, List.length_nil]; omega) (by simp; omega) ?_); intro A6 n6 k6 w6 hn6 hown6 hb6; clear hn6)
          go_roundw
          case rel =>
            refine ⟨k + 1, A6, n6, k6, by omega, by go_num, rfl, ?_, ?_⟩
            · exact HBr.out.trans ((((Below.drewN' ((Below.refl _ wr).alloc (Nat.le_refl _) _) _).alloc (by simp) _).mono hsr).trans hb6)
            · rw [HSN.out, HGP.out]; exact hown6
          case measure => simp [intOf]; omega
        · obtain ⟨n0, n1⟩ := hc 0 (by omega)
          have qn := ciB_ant HGG.out (show 0 < l.length by omega)
          have HGP : Hid (gapAt L l k = (l.getD 0 (0, 0)).1 - (l.getD k (0, 0)).1 + L) := by show _ = _; unfold gapAt; rw [if_neg hk1]; omega
          have hkn : (l.length : Int) = (k : Int) + 1 := by omega
          have hr1 : ((k : Int) + 1).tmod (l.length : Int) = 0 := by rw [hkn]; exact Int.tmod_self
          have hr2 : ((k : Int) + 1) % (l.length : Int) = 0 := by rw [hkn]; exact Int.emod_self
          have hj1 : (0 : Int) < (l.length : Int) := by omega
          have hd1 : ((k : Int) == (l.length : Int) - 1) = true := by simp; omega
          have he2 : ((k : Int) = (l.length : Int) - 1) ↔ True := by simp; omega
          clear hkn
          clear hc n1
          generalize l.getD k (0, 0) = x at *
          generalize l.getD 0 (0, 0) = y at *
          obtain ⟨x1, x2⟩ := x
          obtain ⟨y1, y2⟩ := y
          simp only at a0 a1 n0 q qn
          simp only [Nat.zero_mul, Nat.add_zero] at n0
          have hgw : IntKind.i64.wrap (y1 - x1) = y1 - x1 := IntWalk.i64_in _ (by omega)
          have hgw2 : IntKind.i64.wrap (y1 - x1 + L) = y1 - x1 + L := IntWalk.i64_in _ (by omega)
          generalize (List.range k).map (gapAt L l) = m at *
          go_wp2
          go_quiet (fail)
          go_wp2_with (at_builtin; go_must (refine wpList_append_slsv intS _ rfl _ _ 38 rfl w1.heap.size 3 i0 _ 8 Try.underlying38 hi hz0 hz1 hz2 rfl (by decide) _ m rfl (HO.out.below ((Below.drewN' ((Below.refl _ wr).alloc (Nat.le_refl _) _) _).alloc (by simp) _)) (some ⟨wr.heap.size + 1, 0, none⟩) 1 1 [y1 - x1 + L] rfl rfl (slAt_oneJ (heap_new (by simp))) (by have := HLEN.out; simp only [List.length_cons, List.length_nil]; omega) (by simp; omega) ?_); intro A6 n6 k6 w6 hn6 hown6 hb6; clear hn6)
          go_roundw
          case rel =>
            refine ⟨k + 1, A6, n6, k6, by omega, by go_num, rfl, ?_, ?_⟩
            · exact HBr.out.trans ((((Below.drewN' ((Below.refl _ wr).alloc (Nat.le_refl _) _) _).alloc (by simp) _).mono hsr).trans hb6)
            · rw [HSN.out, HGP.out]; exact hown6
          case measure => simp [intOf]; omega
      · obtain rfl : k = l.length := by omega
        have HOE : Hid (SlOwn intS wr w1.heap.size 3 (.slice A5 n5 c5) (gpV L l)) := by
          have := HO.out
          rwa [← HV.out] at this
        have hn5 : n5 = (gpV L l).length := by
          obtain ⟨_, _, he, _, _⟩ := HOE.out.form
          injection he
        have HN5 := Lib.hid hn5
        have HS := Lib.hid HB.out.size
        clear hn5
        go_wp2
        go_ret2
        exact ⟨A5, n5, c5, rfl, HN5.out, HOE.out.base HS.out, HB.out.trans (HBr.out.mono HS.out)⟩

set_option maxRecDepth 100000 in
set_option maxHeartbeats 2000000 in
theorem implGapsAround_any (L : Int) (A : Option Addr) (c : Nat) (l : List (Int × Int)) (w : World) (hA : AntsAt w A l) :
    Calls Try.prog 50 #[.agg #[.int .i64 L, .slice A l.length c]] w fun e w' => ∃ A' n' c', e = .returned (.tuple #[.slice A' n' c', .bool (ciB L l)]) ∧ n' = (gpV L l).length ∧ SlOwn intS w' w.heap.size 3 (.slice A' n' c') (gpV L l) ∧ Below w.heap.size w w' := by
  obtain ⟨i0, hi, hz0, hz1, hz2⟩ := info_parts intI3
  have HA := Lib.hid (hA.alloc (Obj.cells #[Value.int IntKind.i64 L, Value.slice A l.length c] 55))
  clear hA
  cases hg : ciB L l with
  | false =>
    have HV : Hid (gpV L l = []) := by show _ = _; simp [gpV, hg]
    have HG : Hid (∀ w, AntsAt w A l → Calls Try.prog 43 #[.agg #[.int .i64 L, .slice A l.length c]] w fun e w' => e = .returned (.bool false) ∧ Below w.heap.size w w') := fun w h => by
      rw [← hg]; exact isCircle_any L A c l w h
    clear hg hi
    go_enter Try.func50, Try.ntmps50
    go_wp2_with fail
    refine (HG.out _ HA.out).mono ?_
    rintro e w1 ⟨rfl, hb⟩
    go_wp2
    go_ret2
    exact ⟨none, 0, 0, rfl, by rw [HV.out]; rfl, by rw [HV.out]; exact SlOwn.nil intS _ _ _, ((Below.refl _ _).alloc (Nat.le_refl _) _).trans (hb.mono (by simp))⟩
  | true =>
    have HV : Hid (gpV L l = (List.range l.length).map (gapAt L l)) := by show _ = _; simp [gpV, hg]
    have HG : Hid (∀ w, AntsAt w A l → Calls Try.prog 43 #[.agg #[.int .i64 L, .slice A l.length c]] w fun e w' => e = .returned (.bool true) ∧ Below w.heap.size w w') := fun w h => by
      rw [← hg]; exact isCircle_any L A c l w h
    have hl := ciB_len hg
    have HGG := Lib.hid hg
    clear hg
    go_enter Try.func50, Try.ntmps50
    go_wp2_with fail
    refine (HG.out _ HA.out).mono ?_
    rintro e w1 ⟨rfl, hb⟩
    have c0 : w1.cell? ⟨w.heap.size, 0, none⟩ = some (.int .i64 L) := by rw [hb.cell (p := ⟨w.heap.size, 0, none⟩) (by simp)]; simp
    have c1 : w1.cell? ⟨w.heap.size, 1, none⟩ = some (.slice A l.length c) := by rw [hb.cell (p := ⟨w.heap.size, 1, none⟩) (by simp)]; simp
    have hs1 : w.heap.size < w1.heap.size := by have := hb.size; simp at this; omega
    have HB := Lib.hid (((Below.refl _ w).alloc (Nat.le_refl _) _).trans (hb.mono (by simp)))
    have HA1 := Lib.hid (HA.out.below hb)
    have C0 := Lib.hid c0
    have C1 := Lib.hid c1
    clear hb
    go_wp2_with (at_make; refine wpList_make_own _ rfl _ _ _ rfl w1.heap.size 3 i0 _ 1 Try.underlying38 hi hz0 hz1 .i64 .i64 _ l.length rfl rfl rfl (by rw [hz2]; omega) (by unfold maxLen; omega) (Nat.le_refl _) ?_; intro w2 hown hg; have hb2 : Below w1.heap.size w1 w2 := (Below.refl _ _).grown hg (Nat.le_refl _) (by simp); have c0 := Below.cell_some hb2 c0; have c1 := Below.cell_some hb2 c1)
    have HO2 : Hid (SlOwn intS w2 w1.heap.size 3 (.slice (some ⟨w1.heap.size, 0, none⟩) 0 l.length) ((List.range 0).map (gapAt L l))) := by
      have h : w2.ownsRow w1.heap.size 3 1 (.slice (some ⟨w1.heap.size, 0, none⟩) 0 l.length) 0 [] := by simpa using hown
      exact h
    have HB2 := Lib.hid hb2
    clear hg hown hb2
    go_loopw [4, 18] (fun v i wr => ∃ (k : Nat) (A5 : Option Addr) (n5 c5 : Nat), k ≤ l.length ∧ i = .int .i64 k ∧ v = .slice A5 n5 c5 ∧ Below w1.heap.size w1 wr ∧ SlOwn intS wr w1.heap.size 3 (.slice A5 n5 c5) ((List.range k).map (gapAt L l)))
      (fun _ i _ => l.length - (intOf i).toNat)
    case atStart => exact ⟨0, _, _, _, Nat.zero_le _, rfl, rfl, HB2.out, HO2.out⟩
    case round =>
      clear c0 c1
      obtain ⟨k, A5, n5, c5, hk, rfl, rfl, hbr, hown⟩ := hrel
      have HBr := Lib.hid hbr
      have hsr := hbr.size
      have c0 := Below.cell_some hbr C0.out
      have c1 := Below.cell_some hbr C1.out
      have hsr0 : w.heap.size < wr.heap.size := by omega
      have HAr := Lib.hid (HA1.out.below hbr)
      have HO := Lib.hid hown
      clear hbr hown
      by_cases hlt : k < l.length
      · obtain ⟨b, off, rfl, l0, hc⟩ := HAr.out.at_ hlt
        obtain ⟨a0, a1⟩ := hc k hlt
        obtain ⟨z0, z1⟩ := hc 0 (by omega)
        have HSN := Lib.hid (gap_snoc L l k)
        have q := ciB_ant HGG.out hlt
        have qz := ciB_ant HGG.out (show 0 < l.length by omega)
        have HLEN : Hid (((List.range k).map (gapAt L l)).length ≤ k) := by show _ ≤ _; simp
        have hkw : IntKind.i64.wrap ((k : Int) + 1) = (k : Int) + 1 := IntWalk.i64_in _ (by omega)
        have hjz : (0 : Int) < (l.length : Int) := by omega
        clear z1
        by_cases hk1 : k + 1 < l.length
        · skip
          have HGP : Hid (gapAt L l k = (l.getD (k + 1) (0, 0)).1 - (l.getD k (0, 0)).1) := by show _ = _; unfold gapAt; rw [if_pos hk1]
          obtain ⟨n0, n1⟩ := hc (k + 1) hk1
          have qn := ciB_ant HGG.out hk1
          have hj0 : (0 : Int) ≤ (k : Int) + 1 := by omega
          have hj1 : (k : Int) + 1 < (l.length : Int) := by omega
          have hj2 : ((k : Int) + 1).toNat = k + 1 := by omega
          clear hc
          generalize l.getD k (0, 0) = x at *
          generalize l.getD 0 (0, 0) = z at *
          generalize l.getD (k + 1) (0, 0) = y at *
          obtain ⟨y1, y2⟩ := y
          obtain ⟨x1, x2⟩ := x
          obtain ⟨z1, z2⟩ := z
          simp only at a0 a1 z0 q qz n0 qn
          simp only [Nat.zero_mul, Nat.add_zero] at z0
          have hzw : IntKind.i64.wrap (z1 + L) = z1 + L := IntWalk.i64_in _ (by omega)
          have hgw : IntKind.i64.wrap (y1 - x1) = y1 - x1 := IntWalk.i64_in _ (by omega)
          have e0 := alloc_some a0 (Obj.cells #[Value.int IntKind.i64 x1, Value.int IntKind.i64 x2] 49)
          generalize (List.range k).map (gapAt L l) = m at *
          go_wp2
          go_quiet (fail)
          go_wp2_with (at_builtin; go_must (refine wpList_append_slsv intS _ rfl _ _ 38 rfl w1.heap.size 3 i0 _ 8 Try.underlying38 hi hz0 hz1 hz2 rfl (by decide) _ m rfl (HO.out.below ((Below.drewN' ((Below.refl _ wr).alloc (Nat.le_refl _) _) _).alloc (by simp) _)) (some ⟨wr.heap.size + 1, 0, none⟩) 1 1 [y1 - x1] rfl rfl (slAt_oneJ (heap_new (by simp))) (by have := HLEN.out; simp only [List.length_cons, List.length_nil]; omega) (by simp; omega) ?_); intro A6 n6 k6 w6 hn6 hown6 hb6; clear hn6)
          go_roundw
          case rel =>
            refine ⟨k + 1, A6, n6, k6, by omega, by go_num, rfl, ?_, ?_⟩
            · exact HBr.out.trans ((((Below.drewN' ((Below.refl _ wr).alloc (Nat.le_refl _) _) _).alloc (by simp) _).mono hsr).trans hb6)
            · rw [HSN.out, HGP.out]; exact hown6
          case measure => simp [intOf]; omega
        · skip
          have HGP : Hid (gapAt L l k = (l.getD 0 (0, 0)).1 + L - (l.getD k (0, 0)).1) := by show _ = _; unfold gapAt; rw [if_neg hk1]
          have hj1 : ¬ (k : Int) + 1 < (l.length : Int) := by omega
          clear hc
          generalize l.getD k (0, 0) = x at *
          generalize l.getD 0 (0, 0) = z at *
          obtain ⟨x1, x2⟩ := x
          obtain ⟨z1, z2⟩ := z
          simp only at a0 a1 z0 q qz
          simp only [Nat.zero_mul, Nat.add_zero] at z0
          have hzw : IntKind.i64.wrap (z1 + L) = z1 + L := IntWalk.i64_in _ (by omega)
          have hgw : IntKind.i64.wrap (z1 + L - x1) = z1 + L - x1 := IntWalk.i64_in _ (by omega)
          have e0 := alloc_some a0 (Obj.cells #[Value.int IntKind.i64 x1, Value.int IntKind.i64 x2] 49)
          generalize (List.range k).map (gapAt L l) = m at *
          go_wp2
          go_quiet (fail)
          go_wp2_with (at_builtin; go_must (refine wpList_append_slsv intS _ rfl _ _ 38 rfl w1.heap.size 3 i0 _ 8 Try.underlying38 hi hz0 hz1 hz2 rfl (by decide) _ m rfl (HO.out.below ((Below.drewN' ((Below.refl _ wr).alloc (Nat.le_refl _) _) _).alloc (by simp) _)) (some ⟨wr.heap.size + 1, 0, none⟩) 1 1 [z1 + L - x1] rfl rfl (slAt_oneJ (heap_new (by simp))) (by have := HLEN.out; simp only [List.length_cons, List.length_nil]; omega) (by simp; omega) ?_); intro A6 n6 k6 w6 hn6 hown6 hb6; clear hn6)
          go_roundw
          case rel =>
            refine ⟨k + 1, A6, n6, k6, by omega, by go_num, rfl, ?_, ?_⟩
            · exact HBr.out.trans ((((Below.drewN' ((Below.refl _ wr).alloc (Nat.le_refl _) _) _).alloc (by simp) _).mono hsr).trans hb6)
            · rw [HSN.out, HGP.out]; exact hown6
          case measure => simp [intOf]; omega
      · obtain rfl : k = l.length := by omega
        have HOE : Hid (SlOwn intS wr w1.heap.size 3 (.slice A5 n5 c5) (gpV L l)) := by
          have := HO.out
          rwa [← HV.out] at this
        have hn5 : n5 = (gpV L l).length := by
          obtain ⟨_, _, he, _, _⟩ := HOE.out.form
          injection he
        have HN5 := Lib.hid hn5
        have HS := Lib.hid HB.out.size
        clear hn5
        go_wp2
        go_ret2
        exact ⟨A5, n5, c5, rfl, HN5.out, HOE.out.base HS.out, HB.out.trans (HBr.out.mono HS.out)⟩
end Go.Proofs.Ytdmpgnkiejcljaa
