/- The contracts of the program's MirrorRod and TurnWays. -/
import Derived.Test.YtdmpgnkiejcljaaCompare
import Derived.Test.YtdmpgnkiejcljaaSrtGood
import Derived.Test.YtdmpgnkiejcljaaStep
namespace Go.Proofs.Ytdmpgnkiejcljaa
open Go.RowKit

theorem map_snoc (f : Int × Int → Int × Int) (l : List (Int × Int)) (k : Nat) (x : Int × Int) (hx : l[k]? = some x) : (l.take (k + 1)).map f = (l.take k).map f ++ [f x] := by
  obtain ⟨hk, rfl⟩ := List.getElem?_eq_some_iff.1 hx
  rw [List.take_succ_eq_append_getElem hk, List.map_append]
  rfl

set_option maxRecDepth 100000 in
set_option maxHeartbeats 1000000 in
theorem implMirrorRod_any (L : Int) (A : Option Addr) (c : Nat) (l : List (Int × Int)) (w : World) (hcap : l.length ≤ c) (hA : AntsAt w A l) :
    Calls Try.prog 34 #[.agg #[.int .i64 L, .slice A l.length c]] w fun e w' => ∃ A' n' c', e = .returned (.tuple #[.agg #[.int .i64 (goodL L l), .slice A' n' c'], .bool (goodB L l)]) ∧ n' = (mrA L l).length ∧ AntsOwn w' w.heap.size 49 (.slice A' n' c') (mrA L l) ∧ Below w.heap.size w w' := by
  obtain ⟨i0, hi, hz0, hz1, hz2⟩ := info_parts antI
  have HA := Lib.hid ((hA.alloc (Obj.cells #[Value.int IntKind.i64 L, Value.slice A l.length c] 28)).alloc (Obj.cells #[Value.int IntKind.i64 0, Value.slice none 0 0] 28))
  clear hA
  cases hg : goodB L l with
  | false =>
    have HV : Hid (goodL L l = 0 ∧ mrA L l = []) := by show _ ∧ _; simp [goodL, mrA, hg]
    have HG : Hid (∀ w, AntsAt w A l → Calls Try.prog 57 #[.agg #[.int .i64 L, .slice A l.length c]] w fun e w' => e = .returned (.bool false) ∧ Below w.heap.size w w') := fun w h => by
      rw [← hg]; exact isRod_any L A c l w h
    clear hg hi
    go_enter Try.func34, Try.ntmps34
    go_wp2_with fail
    refine (HG.out _ HA.out).mono ?_
    rintro e w1 ⟨rfl, hb⟩
    have r0 : w1.cell? ⟨w.heap.size + 1, 0, none⟩ = some (.int .i64 0) := by rw [hb.cell (p := ⟨w.heap.size + 1, 0, none⟩) (by simp)]; simp [go_sem]
    have r1 : w1.cell? ⟨w.heap.size + 1, 1, none⟩ = some (.slice none 0 0) := by rw [hb.cell (p := ⟨w.heap.size + 1, 1, none⟩) (by simp)]; simp [go_sem]
    have f0 : w1.frozen? ⟨w.heap.size + 1, 0, none⟩ = false := by rw [hb.frozen (p := ⟨w.heap.size + 1, 0, none⟩) (by simp)]; simp [go_sem]
    have f1 : w1.frozen? ⟨w.heap.size + 1, 1, none⟩ = false := by rw [hb.frozen (p := ⟨w.heap.size + 1, 1, none⟩) (by simp)]; simp [go_sem]
    have hs : w.heap.size + 1 < w1.heap.size := by have := hb.size; simp at this; omega
    have HB := Lib.hid (((Below.refl _ w).alloc (Nat.le_refl _) (Obj.cells #[Value.int IntKind.i64 L, Value.slice A l.length c] 28)).alloc (by simp) (Obj.cells #[Value.int IntKind.i64 0, Value.slice none 0 0] 28) |>.trans (hb.mono (by simp; omega)))
    clear hb
    go_wp2
    refine bodyPost_ret (v := .tuple #[.agg #[.int .i64 0, .slice none 0 0], .bool false]) (by simp [results, Try.results34, go_sem, r0, r1, hs]) rfl ⟨none, 0, 0, ret_rod HV.out.1.symm rfl rfl, by rw [HV.out.2]; rfl, by rw [HV.out.2]; exact SlOwn.nil pairS _ _ _, ?_⟩
    exact (HB.out.setCell (by simp) _).setCell (by simp) _
  | true =>
    have HG : Hid (∀ w, AntsAt w A l → Calls Try.prog 57 #[.agg #[.int .i64 L, .slice A l.length c]] w fun e w' => e = .returned (.bool true) ∧ Below w.heap.size w w') := fun w h => by
      rw [← hg]; exact isRod_any L A c l w h
    have HV : Hid (goodL L l = L ∧ mrA L l = srtA (l.map (mirF L))) := by show _ ∧ _; simp [goodL, mrA, hg]
    have HFIN : Hid ((l.map (mirF L)).reverse = srtA (l.map (mirF L))) := mir_reverse hg
    have hn := good_len hg
    obtain ⟨hL0, hL1, _⟩ := good_hdr hg
    have HGG := Lib.hid hg
    clear hg
    go_enter Try.func34, Try.ntmps34
    go_wp2_with fail
    refine (HG.out _ HA.out).mono ?_
    rintro e w1 ⟨rfl, hb⟩
    have r0 : w1.cell? ⟨w.heap.size + 1, 0, none⟩ = some (.int .i64 0) := by rw [hb.cell (p := ⟨w.heap.size + 1, 0, none⟩) (by simp)]; simp [go_sem]
    have r1 : w1.cell? ⟨w.heap.size + 1, 1, none⟩ = some (.slice none 0 0) := by rw [hb.cell (p := ⟨w.heap.size + 1, 1, none⟩) (by simp)]; simp [go_sem]
    have f0 : w1.frozen? ⟨w.heap.size + 1, 0, none⟩ = false := by rw [hb.frozen (p := ⟨w.heap.size + 1, 0, none⟩) (by simp)]; simp [go_sem]
    have f1 : w1.frozen? ⟨w.heap.size + 1, 1, none⟩ = false := by rw [hb.frozen (p := ⟨w.heap.size + 1, 1, none⟩) (by simp)]; simp [go_sem]
    have hs : w.heap.size + 1 < w1.heap.size := by have := hb.size; simp at this; omega
    have HB := Lib.hid (((Below.refl _ w).alloc (Nat.le_refl _) (Obj.cells #[Value.int IntKind.i64 L, Value.slice A l.length c] 28)).alloc (by simp) (Obj.cells #[Value.int IntKind.i64 0, Value.slice none 0 0] 28) |>.trans (hb.mono (by simp; omega)))
    have c0 : w1.cell? ⟨w.heap.size, 0, none⟩ = some (.int .i64 L) := by rw [hb.cell (p := ⟨w.heap.size, 0, none⟩) (by simp; omega)]; simp [go_sem]
    have c1 : w1.cell? ⟨w.heap.size, 1, none⟩ = some (.slice A l.length c) := by rw [hb.cell (p := ⟨w.heap.size, 1, none⟩) (by simp; omega)]; simp [go_sem]
    have C0 := Lib.hid c0
    have C1 := Lib.hid c1
    have R0 := Lib.hid r0
    have R1 := Lib.hid r1
    have F0 := Lib.hid f0
    have F1 := Lib.hid f1
    have HA1 := Lib.hid (HA.out.below hb)
    have hs0 : w.heap.size < w1.heap.size := by omega
    clear hb
    go_wp2_with (at_make; refine wpList_make_own _ rfl _ _ _ rfl w1.heap.size 49 i0 _ 2 Try.underlying26 hi hz0 hz1 .i64 .i64 _ l.length rfl rfl rfl (by rw [hz2]; omega) (by unfold maxLen; omega) (Nat.le_refl _) ?_; intro w2 hown hg; have hb2 : Below w1.heap.size w1 w2 := (Below.refl _ _).grown hg (Nat.le_refl _) (by simp); have c0 := Below.cell_some hb2 c0; have c1 := Below.cell_some hb2 c1)
    have HO2 : Hid (SlOwn pairS w2 w1.heap.size 49 (.slice (some ⟨w1.heap.size, 0, none⟩) 0 l.length) ((l.take 0).map (mirF L))) := by
      have h : w2.ownsRow w1.heap.size 49 2 (.slice (some ⟨w1.heap.size, 0, none⟩) 0 l.length) 0 [] := by simpa using hown
      exact h
    have HB2 := Lib.hid hb2
    clear hg hown hb2
    go_loopw [4, 18] (fun v i wr => ∃ k : Nat, k ≤ l.length ∧ i = .int .i64 k ∧ Below w1.heap.size w1 wr ∧ SlOwn pairS wr w1.heap.size 49 v ((l.take k).map (mirF L)))
      (fun _ i _ => l.length - (intOf i).toNat)
    case atStart => exact ⟨0, Nat.zero_le _, rfl, HB2.out, HO2.out⟩
    case round =>
      clear c0 c1 r0 r1 f0 f1
      obtain ⟨k, hk, rfl, hb, hown⟩ := hrel
      have c0 := Below.cell_some hb C0.out
      have c1 := Below.cell_some hb C1.out
      have HBr := Lib.hid hb
      have hsr : w1.heap.size ≤ wr.heap.size := hb.size
      have hsr0 : w.heap.size < wr.heap.size := by omega
      have HAr := Lib.hid (HA1.out.below hb)
      clear hb
      obtain ⟨A3, k3, rfl, -, -⟩ := hown.form
      have HO := Lib.hid hown
      clear hown
      by_cases hlt : k < l.length
      · obtain ⟨b, off, rfl, l0, hc⟩ := HAr.out.at_ hlt
        obtain ⟨a0, a1⟩ := hc k hlt
        have hx : l[k]? = some (l.getD k (0, 0)) := by rw [List.getD_eq_getElem?_getD, List.getElem?_eq_getElem hlt]; rfl
        have HSN := Lib.hid (map_snoc (mirF L) l k _ hx)
        obtain ⟨q0, q1, _, qw⟩ := good_ant HGG.out hx
        have hlen : ((l.take k).map (mirF L)).length = k := by rw [List.length_map, List.length_take]; omega
        have HLEN := Lib.hid hlen
        clear hc hx hlen
        generalize l.getD k (0, 0) = x at *
        obtain ⟨x1, x2⟩ := x
        simp only at a0 a1 q0 q1 qw
        have hw1 : IntKind.i64.wrap (L - x1) = L - x1 := IntWalk.i64_in _ (by omega)
        have hw2 : IntKind.i64.wrap (-x2) = -x2 := IntWalk.i64_in _ (by omega)
        generalize ((l.take k).map (mirF L)) = m at *
        clear q0 q1 qw
        go_wp2_with (at_builtin; go_must (refine wpList_append_sl pairS _ rfl _ _ 26 rfl w1.heap.size 49 i0 _ 16 Try.underlying26 hi hz0 hz1 hz2 rfl (by decide) _ _ rfl ((HO.out.below ((Below.refl _ _).alloc (Nat.le_refl _) _)).below ((Below.refl _ _).alloc (Nat.le_refl _) _)) (wr.heap.size + 1) (L - x1, -x2) #[.int .i64 (L - x1), .int .i64 (-x2)] _ _ rfl (heap_new (by simp)) rfl (by have := HLEN.out; omega) (by simp; omega) ?_); intro A5 k5 w5 hown5 hb5 hg5)
        go_roundw
        case rel =>
          refine ⟨k + 1, by omega, by go_num, ?_, ?_⟩
          · exact HBr.out.trans ((((Below.refl _ _).alloc (Nat.le_refl _) _).mono hsr).trans ((((Below.refl _ _).alloc (Nat.le_refl _) _).mono (by simp; omega)).trans hb5))
          · rw [HSN.out]; show SlOwn pairS _ _ _ _ (m ++ [(L - x1, -x2)]); simpa using hown5
        case measure => simp [intOf]; omega
      · obtain rfl : k = l.length := by omega
        have HO6 : Hid (SlOwn pairS wr w1.heap.size 49 (.slice A3 ((l.take l.length).map (mirF L)).length k3) (l.map (mirF L))) := by
          have := HO.out
          rw [List.take_length] at *
          exact this
        have HLN : Hid ((l.map (mirF L)).length ≤ 65536) := by show _ ≤ _; rw [List.length_map]; omega
        have r0 := Below.cell_some HBr.out R0.out
        have r1 := Below.cell_some HBr.out R1.out
        have f0 := (HBr.out.frozen (p := ⟨w.heap.size + 1, 0, none⟩) hs).trans F0.out
        have f1 := (HBr.out.frozen (p := ⟨w.heap.size + 1, 1, none⟩) hs).trans F1.out
        have hn6 : ((l.take l.length).map (mirF L)).length = (mrA L l).length := by rw [HV.out.2, srtA_len, List.take_length]
        have HN6 := Lib.hid hn6
        clear hn6
        generalize ((l.take l.length).map (mirF L)).length = N at *
        go_wp2_with fail
        refine (reverse_any HO6.out).mono ?_
        rintro e w3 ⟨rfl, ho3, hb3⟩
        have c0 := (hb3.cell (p := ⟨w.heap.size, 0, none⟩) hs0).trans c0
        have HO3 := Lib.hid ho3
        have HB3 := Lib.hid (HB.out.trans ((HBr.out.trans hb3).mono (by omega)))
        have r0 := (hb3.cell (p := ⟨w.heap.size + 1, 0, none⟩) hs).trans r0
        have r1 := (hb3.cell (p := ⟨w.heap.size + 1, 1, none⟩) hs).trans r1
        have f0 := (hb3.frozen (p := ⟨w.heap.size + 1, 0, none⟩) hs).trans f0
        have f1 := (hb3.frozen (p := ⟨w.heap.size + 1, 1, none⟩) hs).trans f1
        have hs3 : w.heap.size + 1 < w3.heap.size := by have := hb3.size; omega
        clear ho3 hb3
        go_wp2
        refine bodyPost_ret (v := .tuple #[.agg #[.int .i64 L, .slice A3 N k3], .bool true]) (by simp [results, Try.results34, go_sem, r0, r1, hs3]) rfl ⟨A3, N, k3, ret_rod HV.out.1.symm rfl rfl, HN6.out, ?_, ?_⟩
        · have h := HO3.out
          first | rw [← HV.out.2] at h | rw [HFIN.out, ← HV.out.2] at h
          exact ownsRow_base (ownsRow_setCell_below (ownsRow_setCell_below h (by simp; omega) _) (by simp; omega) _) (by omega)
        · exact (HB3.out.setCell (by simp) _).setCell (by simp) _

set_option maxRecDepth 100000 in
set_option maxHeartbeats 1000000 in
theorem implTurnWays_any (L : Int) (A : Option Addr) (c : Nat) (l : List (Int × Int)) (w : World) (hcap : l.length ≤ c) (hA : AntsAt w A l) :
    Calls Try.prog 36 #[.agg #[.int .i64 L, .slice A l.length c]] w fun e w' => ∃ A' n' c', e = .returned (.tuple #[.agg #[.int .i64 (goodL L l), .slice A' n' c'], .bool (goodB L l)]) ∧ n' = (twA L l).length ∧ AntsOwn w' w.heap.size 49 (.slice A' n' c') (twA L l) ∧ Below w.heap.size w w' := by
  obtain ⟨i0, hi, hz0, hz1, hz2⟩ := info_parts antI
  have HA := Lib.hid ((hA.alloc (Obj.cells #[Value.int IntKind.i64 L, Value.slice A l.length c] 28)).alloc (Obj.cells #[Value.int IntKind.i64 0, Value.slice none 0 0] 28))
  clear hA
  cases hg : goodB L l with
  | false =>
    have HV : Hid (goodL L l = 0 ∧ twA L l = []) := by show _ ∧ _; simp [goodL, twA, hg]
    have HG : Hid (∀ w, AntsAt w A l → Calls Try.prog 57 #[.agg #[.int .i64 L, .slice A l.length c]] w fun e w' => e = .returned (.bool false) ∧ Below w.heap.size w w') := fun w h => by
      rw [← hg]; exact isRod_any L A c l w h
    clear hg hi
    go_enter Try.func36, Try.ntmps36
    go_wp2_with fail
    refine (HG.out _ HA.out).mono ?_
    rintro e w1 ⟨rfl, hb⟩
    have r0 : w1.cell? ⟨w.heap.size + 1, 0, none⟩ = some (.int .i64 0) := by rw [hb.cell (p := ⟨w.heap.size + 1, 0, none⟩) (by simp)]; simp [go_sem]
    have r1 : w1.cell? ⟨w.heap.size + 1, 1, none⟩ = some (.slice none 0 0) := by rw [hb.cell (p := ⟨w.heap.size + 1, 1, none⟩) (by simp)]; simp [go_sem]
    have f0 : w1.frozen? ⟨w.heap.size + 1, 0, none⟩ = false := by rw [hb.frozen (p := ⟨w.heap.size + 1, 0, none⟩) (by simp)]; simp [go_sem]
    have f1 : w1.frozen? ⟨w.heap.size + 1, 1, none⟩ = false := by rw [hb.frozen (p := ⟨w.heap.size + 1, 1, none⟩) (by simp)]; simp [go_sem]
    have hs : w.heap.size + 1 < w1.heap.size := by have := hb.size; simp at this; omega
    have HB := Lib.hid (((Below.refl _ w).alloc (Nat.le_refl _) (Obj.cells #[Value.int IntKind.i64 L, Value.slice A l.length c] 28)).alloc (by simp) (Obj.cells #[Value.int IntKind.i64 0, Value.slice none 0 0] 28) |>.trans (hb.mono (by simp; omega)))
    clear hb
    go_wp2
    refine bodyPost_ret (v := .tuple #[.agg #[.int .i64 0, .slice none 0 0], .bool false]) (by simp [results, Try.results36, go_sem, r0, r1, hs]) rfl ⟨none, 0, 0, ret_rod HV.out.1.symm rfl rfl, by rw [HV.out.2]; rfl, by rw [HV.out.2]; exact SlOwn.nil pairS _ _ _, ?_⟩
    exact (HB.out.setCell (by simp) _).setCell (by simp) _
  | true =>
    have HG : Hid (∀ w, AntsAt w A l → Calls Try.prog 57 #[.agg #[.int .i64 L, .slice A l.length c]] w fun e w' => e = .returned (.bool true) ∧ Below w.heap.size w w') := fun w h => by
      rw [← hg]; exact isRod_any L A c l w h
    have HV : Hid (goodL L l = L ∧ twA L l = srtA (l.map turnF)) := by show _ ∧ _; simp [goodL, twA, hg]
    have HFIN : Hid (srtA (l.map turnF) = srtA (l.map turnF)) := rfl
    have hn := good_len hg
    obtain ⟨hL0, hL1, _⟩ := good_hdr hg
    have HGG := Lib.hid hg
    clear hg
    go_enter Try.func36, Try.ntmps36
    go_wp2_with fail
    refine (HG.out _ HA.out).mono ?_
    rintro e w1 ⟨rfl, hb⟩
    have r0 : w1.cell? ⟨w.heap.size + 1, 0, none⟩ = some (.int .i64 0) := by rw [hb.cell (p := ⟨w.heap.size + 1, 0, none⟩) (by simp)]; simp [go_sem]
    have r1 : w1.cell? ⟨w.heap.size + 1, 1, none⟩ = some (.slice none 0 0) := by rw [hb.cell (p := ⟨w.heap.size + 1, 1, none⟩) (by simp)]; simp [go_sem]
    have f0 : w1.frozen? ⟨w.heap.size + 1, 0, none⟩ = false := by rw [hb.frozen (p := ⟨w.heap.size + 1, 0, none⟩) (by simp)]; simp [go_sem]
    have f1 : w1.frozen? ⟨w.heap.size + 1, 1, none⟩ = false := by rw [hb.frozen (p := ⟨w.heap.size + 1, 1, none⟩) (by simp)]; simp [go_sem]
    have hs : w.heap.size + 1 < w1.heap.size := by have := hb.size; simp at this; omega
    have HB := Lib.hid (((Below.refl _ w).alloc (Nat.le_refl _) (Obj.cells #[Value.int IntKind.i64 L, Value.slice A l.length c] 28)).alloc (by simp) (Obj.cells #[Value.int IntKind.i64 0, Value.slice none 0 0] 28) |>.trans (hb.mono (by simp; omega)))
    have c0 : w1.cell? ⟨w.heap.size, 0, none⟩ = some (.int .i64 L) := by rw [hb.cell (p := ⟨w.heap.size, 0, none⟩) (by simp; omega)]; simp [go_sem]
    have c1 : w1.cell? ⟨w.heap.size, 1, none⟩ = some (.slice A l.length c) := by rw [hb.cell (p := ⟨w.heap.size, 1, none⟩) (by simp; omega)]; simp [go_sem]
    have C0 := Lib.hid c0
    have C1 := Lib.hid c1
    have R0 := Lib.hid r0
    have R1 := Lib.hid r1
    have F0 := Lib.hid f0
    have F1 := Lib.hid f1
    have HA1 := Lib.hid (HA.out.below hb)
    have hs0 : w.heap.size < w1.heap.size := by omega
    clear hb
    go_wp2_with (at_make; refine wpList_make_own _ rfl _ _ _ rfl w1.heap.size 49 i0 _ 2 Try.underlying26 hi hz0 hz1 .i64 .i64 _ l.length rfl rfl rfl (by rw [hz2]; omega) (by unfold maxLen; omega) (Nat.le_refl _) ?_; intro w2 hown hg; have hb2 : Below w1.heap.size w1 w2 := (Below.refl _ _).grown hg (Nat.le_refl _) (by simp); have c0 := Below.cell_some hb2 c0; have c1 := Below.cell_some hb2 c1)
    have HO2 : Hid (SlOwn pairS w2 w1.heap.size 49 (.slice (some ⟨w1.heap.size, 0, none⟩) 0 l.length) ((l.take 0).map turnF)) := by
      have h : w2.ownsRow w1.heap.size 49 2 (.slice (some ⟨w1.heap.size, 0, none⟩) 0 l.length) 0 [] := by simpa using hown
      exact h
    have HB2 := Lib.hid hb2
    clear hg hown hb2
    go_loopw [4, 18] (fun v i wr => ∃ k : Nat, k ≤ l.length ∧ i = .int .i64 k ∧ Below w1.heap.size w1 wr ∧ SlOwn pairS wr w1.heap.size 49 v ((l.take k).map turnF))
      (fun _ i _ => l.length - (intOf i).toNat)
    case atStart => exact ⟨0, Nat.zero_le _, rfl, HB2.out, HO2.out⟩
    case round =>
      clear c0 c1 r0 r1 f0 f1
      obtain ⟨k, hk, rfl, hb, hown⟩ := hrel
      have c0 := Below.cell_some hb C0.out
      have c1 := Below.cell_some hb C1.out
      have HBr := Lib.hid hb
      have hsr : w1.heap.size ≤ wr.heap.size := hb.size
      have hsr0 : w.heap.size < wr.heap.size := by omega
      have HAr := Lib.hid (HA1.out.below hb)
      clear hb
      obtain ⟨A3, k3, rfl, -, -⟩ := hown.form
      have HO := Lib.hid hown
      clear hown
      by_cases hlt : k < l.length
      · obtain ⟨b, off, rfl, l0, hc⟩ := HAr.out.at_ hlt
        obtain ⟨a0, a1⟩ := hc k hlt
        have hx : l[k]? = some (l.getD k (0, 0)) := by rw [List.getD_eq_getElem?_getD, List.getElem?_eq_getElem hlt]; rfl
        have HSN := Lib.hid (map_snoc turnF l k _ hx)
        obtain ⟨q0, q1, _, qw⟩ := good_ant HGG.out hx
        have hlen : ((l.take k).map turnF).length = k := by rw [List.length_map, List.length_take]; omega
        have HLEN := Lib.hid hlen
        clear hc hx hlen
        generalize l.getD k (0, 0) = x at *
        obtain ⟨x1, x2⟩ := x
        simp only at a0 a1 q0 q1 qw
        have hw2 : IntKind.i64.wrap (-x2) = -x2 := IntWalk.i64_in _ (by omega)
        generalize ((l.take k).map turnF) = m at *
        clear q0 q1 qw
        go_wp2_with (at_builtin; go_must (refine wpList_append_sl pairS _ rfl _ _ 26 rfl w1.heap.size 49 i0 _ 16 Try.underlying26 hi hz0 hz1 hz2 rfl (by decide) _ _ rfl ((HO.out.below ((Below.refl _ _).alloc (Nat.le_refl _) _)).below ((Below.refl _ _).alloc (Nat.le_refl _) _)) (wr.heap.size + 1) (x1, -x2) #[.int .i64 (x1), .int .i64 (-x2)] _ _ rfl (heap_new (by simp)) rfl (by have := HLEN.out; omega) (by simp; omega) ?_); intro A5 k5 w5 hown5 hb5 hg5)
        go_roundw
        case rel =>
          refine ⟨k + 1, by omega, by go_num, ?_, ?_⟩
          · exact HBr.out.trans ((((Below.refl _ _).alloc (Nat.le_refl _) _).mono hsr).trans ((((Below.refl _ _).alloc (Nat.le_refl _) _).mono (by simp; omega)).trans hb5))
          · rw [HSN.out]; show SlOwn pairS _ _ _ _ (m ++ [(x1, -x2)]); simpa using hown5
        case measure => simp [intOf]; omega
      · obtain rfl : k = l.length := by omega
        have HO6 : Hid (SlOwn pairS wr w1.heap.size 49 (.slice A3 ((l.take l.length).map turnF).length k3) (l.map turnF)) := by
          have := HO.out
          rw [List.take_length] at *
          exact this
        have HLN : Hid ((l.map turnF).length ≤ 65536) := by show _ ≤ _; rw [List.length_map]; omega
        have r0 := Below.cell_some HBr.out R0.out
        have r1 := Below.cell_some HBr.out R1.out
        have f0 := (HBr.out.frozen (p := ⟨w.heap.size + 1, 0, none⟩) hs).trans F0.out
        have f1 := (HBr.out.frozen (p := ⟨w.heap.size + 1, 1, none⟩) hs).trans F1.out
        have hn6 : ((l.take l.length).map turnF).length = (twA L l).length := by rw [HV.out.2, srtA_len, List.take_length]
        have HN6 := Lib.hid hn6
        clear hn6
        generalize ((l.take l.length).map turnF).length = N at *
        go_wp2_with fail
        refine (sort_any HLN.out HO6.out).mono ?_
        rintro e w3 ⟨rfl, ho3, hb3⟩
        have c0 := (hb3.cell (p := ⟨w.heap.size, 0, none⟩) hs0).trans c0
        have HO3 := Lib.hid ho3
        have HB3 := Lib.hid (HB.out.trans ((HBr.out.trans hb3).mono (by omega)))
        have r0 := (hb3.cell (p := ⟨w.heap.size + 1, 0, none⟩) hs).trans r0
        have r1 := (hb3.cell (p := ⟨w.heap.size + 1, 1, none⟩) hs).trans r1
        have f0 := (hb3.frozen (p := ⟨w.heap.size + 1, 0, none⟩) hs).trans f0
        have f1 := (hb3.frozen (p := ⟨w.heap.size + 1, 1, none⟩) hs).trans f1
        have hs3 : w.heap.size + 1 < w3.heap.size := by have := hb3.size; omega
        clear ho3 hb3
        go_wp2
        refine bodyPost_ret (v := .tuple #[.agg #[.int .i64 L, .slice A3 N k3], .bool true]) (by simp [results, Try.results36, go_sem, r0, r1, hs3]) rfl ⟨A3, N, k3, ret_rod HV.out.1.symm rfl rfl, HN6.out, ?_, ?_⟩
        · have h := HO3.out
          first | rw [← HV.out.2] at h | rw [HFIN.out, ← HV.out.2] at h
          exact ownsRow_base (ownsRow_setCell_below (ownsRow_setCell_below h (by simp; omega) _) (by simp; omega) _) (by omega)
        · exact (HB3.out.setCell (by simp) _).setCell (by simp) _

end Go.Proofs.Ytdmpgnkiejcljaa
