/- The contracts of the model's MirrorCircle and BackCircle: each ant, mirrored or turned, is put into a new circle. -/
import Derived.Test.YtdoikeglaolipaaPut
import Derived.Test.YtdoikeglaolipaaSrtGood
import Derived.Test.YtdoikeglaolipaaCircMap
import Derived.StillTailTactics
namespace Go.Proofs.Ytdoikeglaolipaa
open Go.RowKit

theorem wp_region_tailY {P : Program} {id : Nat} {Q : Exit → Act → World → Prop} {a : Act} {w : World} {l : List Oper} (n : Nat) (hm : P.follows .mixedOrders = true) (hB : Region.lexTailB .any l.toArray n = true)
    (h : ∀ Y : World, Y = w.drew → wpStill P l.toArray Y (fun a' => wpList P l.toArray Q (l.drop n) a' Y) (l.take n) a) : (Code.region id l.toArray true).wp P Q a w :=
  wp_region_still_tail n hm hB (h _ rfl)


set_option maxRecDepth 100000 in
set_option maxHeartbeats 1000000 in
theorem specMirrorCircle_any (L : Int) (A : Option Addr) (c : Nat) (l : List (Int × Int)) (w : World) (_hcap : l.length ≤ c) (hA : AntsAt w A l) :
    Calls Try.prog 29 #[.agg #[.int .i64 L, .slice A l.length c]] w fun e w' => ∃ A' n' c', e = .returned (.tuple #[.agg #[.int .i64 (cirL L l), .slice A' n' c'], .bool (ciB L l)]) ∧ n' = (mcA L l).length ∧ AntsOwn w' w.heap.size 59 (.slice A' n' c') (mcA L l) ∧ Below w.heap.size w w' := by
  have HA := Lib.hid ((hA.alloc (Obj.cells #[Value.int IntKind.i64 L, Value.slice A l.length c] 28)).alloc (Obj.cells #[Value.int IntKind.i64 0, Value.slice none 0 0] 28))
  clear hA
  cases hg : ciB L l with
  | false =>
    have HV : Hid (cirL L l = 0 ∧ mcA L l = []) := by show _ ∧ _; simp [cirL, mcA, hg]
    have HG : Hid (∀ w, AntsAt w A l → Calls Try.prog 36 #[.agg #[.int .i64 L, .slice A l.length c]] w fun e w' => e = .returned (.bool false) ∧ Below w.heap.size w w') := fun w h => by
      rw [← hg]; exact ciGood_any L A c l w h
    clear hg
    go_enter Try.func29, Try.ntmps29
    go_wp2_with fail
    refine (HG.out _ HA.out).mono ?_
    rintro e w1 ⟨rfl, hb⟩
    have r0 : w1.cell? ⟨w.heap.size + 1, 0, none⟩ = some (.int .i64 0) := by rw [hb.cell (p := ⟨w.heap.size + 1, 0, none⟩) (by simp)]; simp [go_sem]
    have r1 : w1.cell? ⟨w.heap.size + 1, 1, none⟩ = some (.slice none 0 0) := by rw [hb.cell (p := ⟨w.heap.size + 1, 1, none⟩) (by simp)]; simp [go_sem]
    have f0 : w1.frozen? ⟨w.heap.size + 1, 0, none⟩ = false := by rw [hb.frozen (p := ⟨w.heap.size + 1, 0, none⟩) (by simp)]; simp [go_sem]
    have f1 : w1.frozen? ⟨w.heap.size + 1, 1, none⟩ = false := by rw [hb.frozen (p := ⟨w.heap.size + 1, 1, none⟩) (by simp)]; simp [go_sem]
    have hs : w.heap.size + 1 < w1.heap.size := by have := hb.size; simp at this; omega
    have HB := Lib.hid (((Below.refl _ w).alloc (Nat.le_refl _) (Obj.cells #[Value.int IntKind.i64 L, Value.slice A l.length c] 28)).alloc (by simp) (Obj.cells #[Value.int IntKind.i64 0, Value.slice none 0 0] 28) |>.trans (hb.mono (by simp; omega)))
    clear hb
    go_wp2
    refine bodyPost_ret (v := .tuple #[.agg #[.int .i64 0, .slice none 0 0], .bool false]) (by simp [results, Try.results29, go_sem, r0, r1]) rfl ⟨none, 0, 0, ret_rod HV.out.1.symm rfl rfl, by rw [HV.out.2]; rfl, by rw [HV.out.2]; exact SlOwn.nil pairS _ _ _, ?_⟩
    exact (HB.out.setCell (by simp) _).setCell (by simp) _
  | true =>
    have HG : Hid (∀ w, AntsAt w A l → Calls Try.prog 36 #[.agg #[.int .i64 L, .slice A l.length c]] w fun e w' => e = .returned (.bool true) ∧ Below w.heap.size w w') := fun w h => by
      rw [← hg]; exact ciGood_any L A c l w h
    have HV : Hid (cirL L l = L ∧ mcA L l = srtA (l.map (mirC L))) := by show _ ∧ _; simp [cirL, mcA, hg]
    have hn : (l.length : Int) ≤ 16 := by have := ciB_len hg; omega
    obtain ⟨hL0, hL1, _, _⟩ := ciB_len hg
    have HGG := Lib.hid hg
    clear hg
    go_enter Try.func29, Try.ntmps29
    go_wp2_with fail
    refine (HG.out _ HA.out).mono ?_
    rintro e w1 ⟨rfl, hb⟩
    have r0 : w1.cell? ⟨w.heap.size + 1, 0, none⟩ = some (.int .i64 0) := by rw [hb.cell (p := ⟨w.heap.size + 1, 0, none⟩) (by simp)]; simp [go_sem]
    have r1 : w1.cell? ⟨w.heap.size + 1, 1, none⟩ = some (.slice none 0 0) := by rw [hb.cell (p := ⟨w.heap.size + 1, 1, none⟩) (by simp)]; simp [go_sem]
    have f0 : w1.frozen? ⟨w.heap.size + 1, 0, none⟩ = false := by rw [hb.frozen (p := ⟨w.heap.size + 1, 0, none⟩) (by simp)]; simp [go_sem]
    have f1 : w1.frozen? ⟨w.heap.size + 1, 1, none⟩ = false := by rw [hb.frozen (p := ⟨w.heap.size + 1, 1, none⟩) (by simp)]; simp [go_sem]
    have hs : w.heap.size + 1 < w1.heap.size := by have := hb.size; simp at this; omega
    have HB := Lib.hid (((Below.refl _ w).alloc (Nat.le_refl _) (Obj.cells #[Value.int IntKind.i64 L, Value.slice A l.length c] 28)).alloc (by simp) (Obj.cells #[Value.int IntKind.i64 0, Value.slice none 0 0] 28) |>.trans (hb.mono (by simp; omega)))
    have c0 : w1.cell? ⟨w.heap.size, 0, none⟩ = some (.int .i64 L) := by rw [hb.cell (p := ⟨w.heap.size, 0, none⟩) (by simp; omega)]; simp [go_sem]
    have c1 : w1.cell? ⟨w.heap.size, 1, none⟩ = some (.slice A l.length c) := by rw [hb.cell (p := ⟨w.heap.size, 1, none⟩) (by simp; omega)]; simp [go_sem]
    have HA1 := Lib.hid (HA.out.below hb)
    have hs0 : w.heap.size < w1.heap.size := by omega
    clear hb
    go_wp2
    go_loopw [17] (fun i wr => ∃ (k : Nat) (A3 : Option Addr) (c3 : Nat), k ≤ l.length ∧ i = .int .i64 k ∧ Below w1.heap.size w1 wr ∧ w1.heap.size < wr.heap.size ∧ wr.cell? ⟨w1.heap.size, 0, none⟩ = some (.int .i64 L) ∧ wr.cell? ⟨w1.heap.size, 1, none⟩ = some (.slice A3 (srtA ((l.take k).map (mirC L))).length c3) ∧ wr.frozen? ⟨w1.heap.size, 0, none⟩ = false ∧ wr.frozen? ⟨w1.heap.size, 1, none⟩ = false ∧ SlOwn pairS wr (w1.heap.size + 1) 59 (.slice A3 (srtA ((l.take k).map (mirC L))).length c3) (srtA ((l.take k).map (mirC L))))
      (fun i _ => l.length - (intOf i).toNat)
    case atStart => exact ⟨0, none, 0, Nat.zero_le _, rfl, (Below.refl _ _).alloc (Nat.le_refl _) _, by simp, by simp [go_sem], by simp [go_sem, srtA_nil], by simp [go_sem], by simp [go_sem], by rw [List.take_zero, List.map_nil, srtA_nil]; exact SlOwn.nil pairS _ _ _⟩
    case round =>
      obtain ⟨k, A3, c3, hk, rfl, hb, hs3, o0, o1, g0, g1, hown⟩ := hrel
      have HBr := Lib.hid hb
      have hsr : w.heap.size < wr.heap.size := by omega
      have HAr := Lib.hid (HA1.out.below hb)
      have c0 := Below.cell_some hb c0
      have c1 := Below.cell_some hb c1
      have r0 := Below.cell_some hb r0
      have r1 := Below.cell_some hb r1
      have f0 := (hb.frozen (p := ⟨w.heap.size + 1, 0, none⟩) hs).trans f0
      have f1 := (hb.frozen (p := ⟨w.heap.size + 1, 1, none⟩) hs).trans f1
      have HO := Lib.hid hown
      clear hb hown
      by_cases hlt : k < l.length
      · obtain ⟨b, off, rfl, l0, hc⟩ := HAr.out.at_ hlt
        obtain ⟨a0, a1⟩ := hc k hlt
        have hx : l[k]? = some (l.getD k (0, 0)) := by rw [List.getD_eq_getElem?_getD, List.getElem?_eq_getElem hlt]; rfl
        have HSN := Lib.hid (srt_snoc (mirC L) l k _ hx)
        obtain ⟨q0, q1, qw⟩ := ciB_way HGG.out hx
        have hlen : (srtA ((l.take k).map (mirC L))).length = k := by rw [srtA_len, List.length_map, List.length_take]; omega
        have HLEN := Lib.hid hlen
        clear hc hx hlen
        generalize l.getD k (0, 0) = x at *
        obtain ⟨x1, x2⟩ := x
        simp only at a0 a1 q0 q1 qw
        have hw1 : IntKind.i64.wrap (L - x1) = L - x1 := IntWalk.i64_in _ (by omega)
        have hw2 : IntKind.i64.wrap (-x2) = -x2 := IntWalk.i64_in _ (by omega)
        have htm0 : (L - x1).tmod L = (L - x1) % L := Int.tmod_eq_emod_of_nonneg (by omega)
        have hb0 := Int.emod_nonneg (L - x1) (show L ≠ 0 by omega)
        have hb1 := Int.emod_lt_of_pos (L - x1) (show 0 < L by omega)
        obtain ⟨v, hv⟩ : ∃ v, v = (L - x1) % L := ⟨_, rfl⟩
        have htm : (L - x1).tmod L = v := by rw [htm0, hv]
        rw [← hv] at hb0 hb1
        have HSN : Hid (putA (srtA ((l.take k).map (mirC L))) (v, -x2) = srtA ((l.take (k + 1)).map (mirC L))) := by show _ = _; rw [hv]; exact HSN.out
        clear htm0 hv
        have hw3 : IntKind.i64.wrap v = v := IntWalk.i64_in _ (by omega)
        have hLn : ¬ L = 0 := by omega
        have HPUT := Lib.hid (fun W (hW : SlOwn pairS W (w1.heap.size + 1) 59 (.slice A3 (srtA ((l.take k).map (mirC L))).length c3) (srtA ((l.take k).map (mirC L)))) => roPut_any A3 c3 (srtA ((l.take k).map (mirC L))) (v) (-x2) W (by have := HLEN.out; omega) (own_cap hW) (slAt_ants hW.sl))
        generalize (srtA ((l.take k).map (mirC L))) = m at *
        clear q0 q1 qw
        have x0 : (wr.alloc (Obj.cells #[Value.int IntKind.i64 x1, Value.int IntKind.i64 x2] 59)).cell? ⟨wr.heap.size, 0, none⟩ = some (.int .i64 x1) := by simp
        have x1' : (wr.alloc (Obj.cells #[Value.int IntKind.i64 x1, Value.int IntKind.i64 x2] 59)).cell? ⟨wr.heap.size, 1, none⟩ = some (.int .i64 x2) := by simp
        have HBX : Hid (Below wr.heap.size wr (wr.alloc (Obj.cells #[Value.int IntKind.i64 x1, Value.int IntKind.i64 x2] 59))) := (Below.refl _ _).alloc (Nat.le_refl _) _
        go_wp2
        generalize wr.alloc (Obj.cells #[Value.int IntKind.i64 x1, Value.int IntKind.i64 x2] 59) = X at *
        refine wp_region_tailY 14 (by kernel_rfl) (by kernel_rfl) (fun Y hY => ?_)
        have HBY : Hid (Below wr.heap.size wr Y) := by show Below _ _ _; rw [hY]; exact HBX.out.drew
        have x0 : Y.cell? ⟨wr.heap.size, 0, none⟩ = some (.int .i64 x1) := by rw [hY]; exact x0
        have x1' : Y.cell? ⟨wr.heap.size, 1, none⟩ = some (.int .i64 x2) := by rw [hY]; exact x1'
        have c0 := Below.cell_some HBY.out c0
        have o0 := Below.cell_some HBY.out o0
        have o1 := Below.cell_some HBY.out o1
        have g0 := (HBY.out.frozen (p := ⟨w1.heap.size, 0, none⟩) hs3).trans g0
        have g1 := (HBY.out.frozen (p := ⟨w1.heap.size, 1, none⟩) hs3).trans g1
        have r0 := Below.cell_some HBY.out r0
        have r1 := Below.cell_some HBY.out r1
        clear hY HBX
        simp only [List.take_succ_cons, List.take_zero, List.drop_succ_cons, List.drop_zero]
        repeat still_step
        refine wpStill_nil ?_
        go_wp2_with fail
        refine (HPUT.out _ (HO.out.below HBY.out)).mono ?_
        rintro e w3 ⟨A4, n4, c4, rfl, hn4, ho4, hb4⟩
        subst hn4
        have hbq : Below wr.heap.size wr w3 := HBY.out.trans (hb4.mono HBY.out.size)
        have hsy := HBY.out.size
        have o0 := Below.cell_some hb4 o0
        have o1 := Below.cell_some hb4 o1
        have g0 := (hb4.frozen (p := ⟨w1.heap.size, 0, none⟩) (by simp only; omega)).trans g0
        have g1 := (hb4.frozen (p := ⟨w1.heap.size, 1, none⟩) (by simp only; omega)).trans g1
        have hs4 : w1.heap.size < w3.heap.size := Nat.lt_of_lt_of_le hs3 hbq.size
        have HB4 := Lib.hid (HBr.out.trans (hbq.mono (Nat.le_of_lt hs3)))
        have HO4 : Hid (SlOwn pairS w3 (w1.heap.size + 1) 59 (.slice A4 (putA m (v, -x2)).length c4) (putA m (v, -x2))) := AntsOwn.base ho4 (by omega)
        clear ho4 hbq hb4
        go_wp2
        go_roundw
        case rel =>
          refine ⟨k + 1, A4, c4, by omega, by go_num, HB4.out.setCell (Nat.le_refl _) _, by simpa using hs4, ?_, ?_, ?_, ?_, ?_⟩
          · simp [go_sem, o0]
          · rw [← HSN.out]; simp [go_sem, o1]
            try rfl
          · simp [go_sem, g0]
          · simp [go_sem, g1]
          · rw [← HSN.out]; exact ownsRow_setCell_below HO4.out (by simp) _
        case measure => simp [intOf]; omega
      · obtain rfl : k = l.length := by omega
        have HE : Hid ((srtA ((l.take l.length).map (mirC L))) = mcA L l) := by show _ = _; rw [List.take_length, HV.out.2]
        rw [HE.out] at o1
        have HO5 : Hid (SlOwn pairS wr (w1.heap.size + 1) 59 (.slice A3 (mcA L l).length c3) (mcA L l)) := by
          have := HO.out
          rwa [HE.out] at this
        have hs5 : w.heap.size + 1 < wr.heap.size := by omega
        have HB5 := Lib.hid (HB.out.trans (HBr.out.mono HB.out.size))
        go_wp2
        refine bodyPost_ret (v := .tuple #[.agg #[.int .i64 L, .slice A3 (mcA L l).length c3], .bool true]) (by simp [results, Try.results29, go_sem, r0, r1]) rfl ⟨A3, _, c3, ret_rod HV.out.1.symm rfl rfl, rfl, ?_, ?_⟩
        · exact ownsRow_base (ownsRow_setCell_below (ownsRow_setCell_below HO5.out (by simp; omega) _) (by simp; omega) _) (by omega)
        · exact (HB5.out.setCell (by simp) _).setCell (by simp) _

set_option maxRecDepth 100000 in
set_option maxHeartbeats 1000000 in
theorem specBackCircle_any (L : Int) (A : Option Addr) (c : Nat) (l : List (Int × Int)) (w : World) (_hcap : l.length ≤ c) (hA : AntsAt w A l) :
    Calls Try.prog 33 #[.agg #[.int .i64 L, .slice A l.length c]] w fun e w' => ∃ A' n' c', e = .returned (.tuple #[.agg #[.int .i64 (cirL L l), .slice A' n' c'], .bool (ciB L l)]) ∧ n' = (bcA L l).length ∧ AntsOwn w' w.heap.size 59 (.slice A' n' c') (bcA L l) ∧ Below w.heap.size w w' := by
  have HA := Lib.hid ((hA.alloc (Obj.cells #[Value.int IntKind.i64 L, Value.slice A l.length c] 28)).alloc (Obj.cells #[Value.int IntKind.i64 0, Value.slice none 0 0] 28))
  clear hA
  cases hg : ciB L l with
  | false =>
    have HV : Hid (cirL L l = 0 ∧ bcA L l = []) := by show _ ∧ _; simp [cirL, bcA, hg]
    have HG : Hid (∀ w, AntsAt w A l → Calls Try.prog 36 #[.agg #[.int .i64 L, .slice A l.length c]] w fun e w' => e = .returned (.bool false) ∧ Below w.heap.size w w') := fun w h => by
      rw [← hg]; exact ciGood_any L A c l w h
    clear hg
    go_enter Try.func33, Try.ntmps33
    go_wp2_with fail
    refine (HG.out _ HA.out).mono ?_
    rintro e w1 ⟨rfl, hb⟩
    have r0 : w1.cell? ⟨w.heap.size + 1, 0, none⟩ = some (.int .i64 0) := by rw [hb.cell (p := ⟨w.heap.size + 1, 0, none⟩) (by simp)]; simp [go_sem]
    have r1 : w1.cell? ⟨w.heap.size + 1, 1, none⟩ = some (.slice none 0 0) := by rw [hb.cell (p := ⟨w.heap.size + 1, 1, none⟩) (by simp)]; simp [go_sem]
    have f0 : w1.frozen? ⟨w.heap.size + 1, 0, none⟩ = false := by rw [hb.frozen (p := ⟨w.heap.size + 1, 0, none⟩) (by simp)]; simp [go_sem]
    have f1 : w1.frozen? ⟨w.heap.size + 1, 1, none⟩ = false := by rw [hb.frozen (p := ⟨w.heap.size + 1, 1, none⟩) (by simp)]; simp [go_sem]
    have hs : w.heap.size + 1 < w1.heap.size := by have := hb.size; simp at this; omega
    have HB := Lib.hid (((Below.refl _ w).alloc (Nat.le_refl _) (Obj.cells #[Value.int IntKind.i64 L, Value.slice A l.length c] 28)).alloc (by simp) (Obj.cells #[Value.int IntKind.i64 0, Value.slice none 0 0] 28) |>.trans (hb.mono (by simp; omega)))
    clear hb
    go_wp2
    refine bodyPost_ret (v := .tuple #[.agg #[.int .i64 0, .slice none 0 0], .bool false]) (by simp [results, Try.results33, go_sem, r0, r1]) rfl ⟨none, 0, 0, ret_rod HV.out.1.symm rfl rfl, by rw [HV.out.2]; rfl, by rw [HV.out.2]; exact SlOwn.nil pairS _ _ _, ?_⟩
    exact (HB.out.setCell (by simp) _).setCell (by simp) _
  | true =>
    have HG : Hid (∀ w, AntsAt w A l → Calls Try.prog 36 #[.agg #[.int .i64 L, .slice A l.length c]] w fun e w' => e = .returned (.bool true) ∧ Below w.heap.size w w') := fun w h => by
      rw [← hg]; exact ciGood_any L A c l w h
    have HV : Hid (cirL L l = L ∧ bcA L l = srtA (l.map turnF)) := by show _ ∧ _; simp [cirL, bcA, hg]
    have hn : (l.length : Int) ≤ 16 := by have := ciB_len hg; omega
    obtain ⟨hL0, hL1, _, _⟩ := ciB_len hg
    have HGG := Lib.hid hg
    clear hg
    go_enter Try.func33, Try.ntmps33
    go_wp2_with fail
    refine (HG.out _ HA.out).mono ?_
    rintro e w1 ⟨rfl, hb⟩
    have r0 : w1.cell? ⟨w.heap.size + 1, 0, none⟩ = some (.int .i64 0) := by rw [hb.cell (p := ⟨w.heap.size + 1, 0, none⟩) (by simp)]; simp [go_sem]
    have r1 : w1.cell? ⟨w.heap.size + 1, 1, none⟩ = some (.slice none 0 0) := by rw [hb.cell (p := ⟨w.heap.size + 1, 1, none⟩) (by simp)]; simp [go_sem]
    have f0 : w1.frozen? ⟨w.heap.size + 1, 0, none⟩ = false := by rw [hb.frozen (p := ⟨w.heap.size + 1, 0, none⟩) (by simp)]; simp [go_sem]
    have f1 : w1.frozen? ⟨w.heap.size + 1, 1, none⟩ = false := by rw [hb.frozen (p := ⟨w.heap.size + 1, 1, none⟩) (by simp)]; simp [go_sem]
    have hs : w.heap.size + 1 < w1.heap.size := by have := hb.size; simp at this; omega
    have HB := Lib.hid (((Below.refl _ w).alloc (Nat.le_refl _) (Obj.cells #[Value.int IntKind.i64 L, Value.slice A l.length c] 28)).alloc (by simp) (Obj.cells #[Value.int IntKind.i64 0, Value.slice none 0 0] 28) |>.trans (hb.mono (by simp; omega)))
    have c0 : w1.cell? ⟨w.heap.size, 0, none⟩ = some (.int .i64 L) := by rw [hb.cell (p := ⟨w.heap.size, 0, none⟩) (by simp; omega)]; simp [go_sem]
    have c1 : w1.cell? ⟨w.heap.size, 1, none⟩ = some (.slice A l.length c) := by rw [hb.cell (p := ⟨w.heap.size, 1, none⟩) (by simp; omega)]; simp [go_sem]
    have HA1 := Lib.hid (HA.out.below hb)
    have hs0 : w.heap.size < w1.heap.size := by omega
    clear hb
    go_wp2
    go_loopw [17] (fun i wr => ∃ (k : Nat) (A3 : Option Addr) (c3 : Nat), k ≤ l.length ∧ i = .int .i64 k ∧ Below w1.heap.size w1 wr ∧ w1.heap.size < wr.heap.size ∧ wr.cell? ⟨w1.heap.size, 0, none⟩ = some (.int .i64 L) ∧ wr.cell? ⟨w1.heap.size, 1, none⟩ = some (.slice A3 (srtA ((l.take k).map turnF)).length c3) ∧ wr.frozen? ⟨w1.heap.size, 0, none⟩ = false ∧ wr.frozen? ⟨w1.heap.size, 1, none⟩ = false ∧ SlOwn pairS wr (w1.heap.size + 1) 59 (.slice A3 (srtA ((l.take k).map turnF)).length c3) (srtA ((l.take k).map turnF)))
      (fun i _ => l.length - (intOf i).toNat)
    case atStart => exact ⟨0, none, 0, Nat.zero_le _, rfl, (Below.refl _ _).alloc (Nat.le_refl _) _, by simp, by simp [go_sem], by simp [go_sem, srtA_nil], by simp [go_sem], by simp [go_sem], by rw [List.take_zero, List.map_nil, srtA_nil]; exact SlOwn.nil pairS _ _ _⟩
    case round =>
      obtain ⟨k, A3, c3, hk, rfl, hb, hs3, o0, o1, g0, g1, hown⟩ := hrel
      have HBr := Lib.hid hb
      have hsr : w.heap.size < wr.heap.size := by omega
      have HAr := Lib.hid (HA1.out.below hb)
      have c0 := Below.cell_some hb c0
      have c1 := Below.cell_some hb c1
      have r0 := Below.cell_some hb r0
      have r1 := Below.cell_some hb r1
      have f0 := (hb.frozen (p := ⟨w.heap.size + 1, 0, none⟩) hs).trans f0
      have f1 := (hb.frozen (p := ⟨w.heap.size + 1, 1, none⟩) hs).trans f1
      have HO := Lib.hid hown
      clear hb hown
      by_cases hlt : k < l.length
      · obtain ⟨b, off, rfl, l0, hc⟩ := HAr.out.at_ hlt
        obtain ⟨a0, a1⟩ := hc k hlt
        have hx : l[k]? = some (l.getD k (0, 0)) := by rw [List.getD_eq_getElem?_getD, List.getElem?_eq_getElem hlt]; rfl
        have HSN := Lib.hid (srt_snoc turnF l k _ hx)
        obtain ⟨q0, q1, qw⟩ := ciB_way HGG.out hx
        have hlen : (srtA ((l.take k).map turnF)).length = k := by rw [srtA_len, List.length_map, List.length_take]; omega
        have HLEN := Lib.hid hlen
        clear hc hx hlen
        generalize l.getD k (0, 0) = x at *
        obtain ⟨x1, x2⟩ := x
        simp only at a0 a1 q0 q1 qw
        have hw2 : IntKind.i64.wrap (-x2) = -x2 := IntWalk.i64_in _ (by omega)
        have HPUT := Lib.hid (fun W (hW : SlOwn pairS W (w1.heap.size + 1) 59 (.slice A3 (srtA ((l.take k).map turnF)).length c3) (srtA ((l.take k).map turnF))) => roPut_any A3 c3 (srtA ((l.take k).map turnF)) (x1) (-x2) W (by have := HLEN.out; omega) (own_cap hW) (slAt_ants hW.sl))
        generalize (srtA ((l.take k).map turnF)) = m at *
        clear q0 q1 qw
        go_wp2_with fail
        refine (HPUT.out _ (HO.out.below ((Below.refl _ _).alloc (Nat.le_refl _) _))).mono ?_
        rintro e w3 ⟨A4, n4, c4, rfl, hn4, ho4, hb4⟩
        subst hn4
        have hbq : Below wr.heap.size wr w3 := ((Below.refl _ wr).alloc (Nat.le_refl _) _).trans (hb4.mono (by simp))
        have o0 := Below.cell_some hbq o0
        have o1 := Below.cell_some hbq o1
        have g0 := (hbq.frozen (p := ⟨w1.heap.size, 0, none⟩) hs3).trans g0
        have g1 := (hbq.frozen (p := ⟨w1.heap.size, 1, none⟩) hs3).trans g1
        have hs4 : w1.heap.size < w3.heap.size := Nat.lt_of_lt_of_le hs3 hbq.size
        have HB4 := Lib.hid (HBr.out.trans (hbq.mono (Nat.le_of_lt hs3)))
        have HO4 : Hid (SlOwn pairS w3 (w1.heap.size + 1) 59 (.slice A4 (putA m (x1, -x2)).length c4) (putA m (x1, -x2))) := AntsOwn.base ho4 (by simp; omega)
        clear ho4 hb4 hbq
        go_wp2
        go_roundw
        case rel =>
          refine ⟨k + 1, A4, c4, by omega, by go_num, HB4.out.setCell (Nat.le_refl _) _, by simpa using hs4, ?_, ?_, ?_, ?_, ?_⟩
          · simp [go_sem, o0]
          · rw [← HSN.out]; simp [go_sem, o1]
            try rfl
          · simp [go_sem, g0]
          · simp [go_sem, g1]
          · rw [← HSN.out]; exact ownsRow_setCell_below HO4.out (by simp) _
        case measure => simp [intOf]; omega
      · obtain rfl : k = l.length := by omega
        have HE : Hid ((srtA ((l.take l.length).map turnF)) = bcA L l) := by show _ = _; rw [List.take_length, HV.out.2]
        rw [HE.out] at o1
        have HO5 : Hid (SlOwn pairS wr (w1.heap.size + 1) 59 (.slice A3 (bcA L l).length c3) (bcA L l)) := by
          have := HO.out
          rwa [HE.out] at this
        have hs5 : w.heap.size + 1 < wr.heap.size := by omega
        have HB5 := Lib.hid (HB.out.trans (HBr.out.mono HB.out.size))
        go_wp2
        refine bodyPost_ret (v := .tuple #[.agg #[.int .i64 L, .slice A3 (bcA L l).length c3], .bool true]) (by simp [results, Try.results33, go_sem, r0, r1]) rfl ⟨A3, _, c3, ret_rod HV.out.1.symm rfl rfl, rfl, ?_, ?_⟩
        · exact ownsRow_base (ownsRow_setCell_below (ownsRow_setCell_below HO5.out (by simp; omega) _) (by simp; omega) _) (by omega)
        · exact (HB5.out.setCell (by simp) _).setCell (by simp) _

end Go.Proofs.Ytdoikeglaolipaa
