/- The contract of the model's SpinCircle. -/
import Derived.Test.YtdoikeglaolipaaSpecMapC
namespace Go.Proofs.Ytdoikeglaolipaa
open Go.RowKit

def spnC (L s : Int) (x : Int × Int) : Int × Int := ((x.1 + s) % L, x.2)
def spB (s L : Int) (l : List (Int × Int)) : Bool := ciB L l && (decide (0 ≤ s) && decide (s ≤ L - 2)) && (s % 2 == 0)
def spL (s L : Int) (l : List (Int × Int)) : Int := if spB s L l then L else 0
def spA (s L : Int) (l : List (Int × Int)) : List (Int × Int) := if spB s L l then srtA (l.map (spnC L s)) else []
theorem spA_len (s L : Int) (l : List (Int × Int)) : (spA s L l).length ≤ l.length := by
  unfold spA
  split
  · rw [srtA_len, List.length_map]; exact Nat.le_refl _
  · exact Nat.zero_le _

set_option maxRecDepth 100000 in
set_option maxHeartbeats 1000000 in
theorem specSpinCircle_any (L : Int) (A : Option Addr) (c : Nat) (l : List (Int × Int)) (s : Int) (w : World) (_hcap : l.length ≤ c) (hA : AntsAt w A l) :
    Calls Try.prog 31 #[.agg #[.int .i64 L, .slice A l.length c], .int .i64 s] w fun e w' => ∃ A' n' c', e = .returned (.tuple #[.agg #[.int .i64 (spL s L l), .slice A' n' c'], .bool (spB s L l)]) ∧ n' = (spA s L l).length ∧ AntsOwn w' w.heap.size 59 (.slice A' n' c') (spA s L l) ∧ Below w.heap.size w w' := by
  have HA := Lib.hid ((hA.alloc (Obj.cells #[Value.int IntKind.i64 L, Value.slice A l.length c] 28)).alloc (Obj.cells #[Value.int IntKind.i64 0, Value.slice none 0 0] 28))
  clear hA
  cases hg : ciB L l with
  | false =>
    have HV : Hid (spL s L l = 0 ∧ spA s L l = [] ∧ spB s L l = false) := by show _ ∧ _ ∧ _; simp [spL, spA, spB, hg]
    have HG : Hid (∀ w, AntsAt w A l → Calls Try.prog 36 #[.agg #[.int .i64 L, .slice A l.length c]] w fun e w' => e = .returned (.bool false) ∧ Below w.heap.size w w') := fun w h => by
      rw [← hg]; exact ciGood_any L A c l w h
    clear hg
    go_enter Try.func31, Try.ntmps31
    go_wp2_with fail
    refine (HG.out _ HA.out).mono ?_
    rintro e w1 ⟨rfl, hb⟩
    have r0 : w1.cell? ⟨w.heap.size + 1, 0, none⟩ = some (.int .i64 0) := by rw [hb.cell (p := ⟨w.heap.size + 1, 0, none⟩) (by simp)]; simp [go_sem]
    have r1 : w1.cell? ⟨w.heap.size + 1, 1, none⟩ = some (.slice none 0 0) := by rw [hb.cell (p := ⟨w.heap.size + 1, 1, none⟩) (by simp)]; simp [go_sem]
    have f0 : w1.frozen? ⟨w.heap.size + 1, 0, none⟩ = false := by rw [hb.frozen (p := ⟨w.heap.size + 1, 0, none⟩) (by simp)]; simp [go_sem]
    have f1 : w1.frozen? ⟨w.heap.size + 1, 1, none⟩ = false := by rw [hb.frozen (p := ⟨w.heap.size + 1, 1, none⟩) (by simp)]; simp [go_sem]
    have hs : w.heap.size + 1 < w1.heap.size := by have := hb.size; simp at this; omega
    have HB := Lib.hid (((Below.refl _ w).alloc (Nat.le_refl _) (Obj.cells #[Value.int IntKind.i64 L, Value.slice A l.length c] 28)).alloc (by simp) (Obj.cells #[Value.int IntKind.i64 0, Value.slice none 0 0] 28) |>.trans (hb.mono (by simp; omega)))
    clear hb
    go_wp2
    refine bodyPost_ret (v := .tuple #[.agg #[.int .i64 0, .slice none 0 0], .bool false]) (by simp [results, Try.results31, go_sem, r0, r1]) rfl ⟨none, 0, 0, ret_rod HV.out.1.symm rfl HV.out.2.2.symm, by rw [HV.out.2.1]; rfl, by rw [HV.out.2.1]; exact SlOwn.nil pairS _ _ _, ?_⟩
    exact (HB.out.setCell (by simp) _).setCell (by simp) _
  | true =>
    have HG : Hid (∀ w, AntsAt w A l → Calls Try.prog 36 #[.agg #[.int .i64 L, .slice A l.length c]] w fun e w' => e = .returned (.bool true) ∧ Below w.heap.size w w') := fun w h => by
      rw [← hg]; exact ciGood_any L A c l w h
    obtain ⟨hL0, hL1, _, _⟩ := ciB_len hg
    cases hi : (decide (0 ≤ s) && decide (s ≤ L - 2)) with
    | false =>
      have HI : Hid (∀ w, Calls Try.prog 48 #[.int .i64 s, .int .i64 0, .int .i64 (L - 2)] w fun e w' => e = .returned (.bool false) ∧ w = w') := fun w => in_at s 0 _ false hi w
      have HV : Hid (spL s L l = 0 ∧ spA s L l = [] ∧ spB s L l = false) := by show _ ∧ _ ∧ _; simp [spL, spA, spB, hi]
      clear hg
      go_enter Try.func31, Try.ntmps31
      go_wp2_with fail
      refine (HG.out _ HA.out).mono ?_
      rintro e w1 ⟨rfl, hb⟩
      have r0 : w1.cell? ⟨w.heap.size + 1, 0, none⟩ = some (.int .i64 0) := by rw [hb.cell (p := ⟨w.heap.size + 1, 0, none⟩) (by simp)]; simp [go_sem]
      have r1 : w1.cell? ⟨w.heap.size + 1, 1, none⟩ = some (.slice none 0 0) := by rw [hb.cell (p := ⟨w.heap.size + 1, 1, none⟩) (by simp)]; simp [go_sem]
      have f0 : w1.frozen? ⟨w.heap.size + 1, 0, none⟩ = false := by rw [hb.frozen (p := ⟨w.heap.size + 1, 0, none⟩) (by simp)]; simp [go_sem]
      have f1 : w1.frozen? ⟨w.heap.size + 1, 1, none⟩ = false := by rw [hb.frozen (p := ⟨w.heap.size + 1, 1, none⟩) (by simp)]; simp [go_sem]
      have hs : w.heap.size + 1 < w1.heap.size := by have := hb.size; simp at this; omega
      have HB := Lib.hid (((Below.refl _ w).alloc (Nat.le_refl _) (Obj.cells #[Value.int IntKind.i64 L, Value.slice A l.length c] 28)).alloc (by simp) (Obj.cells #[Value.int IntKind.i64 0, Value.slice none 0 0] 28) |>.trans (hb.mono (by simp; omega)))
      have c0 : w1.cell? ⟨w.heap.size, 0, none⟩ = some (.int .i64 L) := by rw [hb.cell (p := ⟨w.heap.size, 0, none⟩) (by simp; omega)]; simp [go_sem]
      clear hb
      have hwl : IntKind.i64.wrap (L - 2) = L - 2 := IntWalk.i64_in _ (by omega)
      go_wp2_with fail
      refine (HI.out _).mono ?_
      rintro e w2 ⟨rfl, rfl⟩
      go_wp2
      refine bodyPost_ret (v := .tuple #[.agg #[.int .i64 0, .slice none 0 0], .bool false]) (by simp [results, Try.results31, go_sem, r0, r1]) rfl ⟨none, 0, 0, ret_rod HV.out.1.symm rfl HV.out.2.2.symm, by rw [HV.out.2.1]; rfl, by rw [HV.out.2.1]; exact SlOwn.nil pairS _ _ _, ?_⟩
      exact (HB.out.setCell (by simp) _).setCell (by simp) _
    | true =>
      have HI : Hid (∀ w, Calls Try.prog 48 #[.int .i64 s, .int .i64 0, .int .i64 (L - 2)] w fun e w' => e = .returned (.bool true) ∧ w = w') := fun w => in_at s 0 _ true hi w
      have hs0' : 0 ≤ s ∧ s ≤ L - 2 := by simpa using hi
      have HPE : Hid (s.tmod 2 = s % 2) := Int.tmod_eq_emod_of_nonneg hs0'.1
      cases hp : (s % 2 == 0) with
      | false =>
        have hpm : ¬ s.tmod 2 = 0 := by rw [HPE.out]; simpa using hp
        have HV : Hid (spL s L l = 0 ∧ spA s L l = [] ∧ spB s L l = false) := by show _ ∧ _ ∧ _; simp [spL, spA, spB, hp]
        clear hg
        go_enter Try.func31, Try.ntmps31
        go_wp2_with fail
        refine (HG.out _ HA.out).mono ?_
        rintro e w1 ⟨rfl, hb⟩
        have r0 : w1.cell? ⟨w.heap.size + 1, 0, none⟩ = some (.int .i64 0) := by rw [hb.cell (p := ⟨w.heap.size + 1, 0, none⟩) (by simp)]; simp [go_sem]
        have r1 : w1.cell? ⟨w.heap.size + 1, 1, none⟩ = some (.slice none 0 0) := by rw [hb.cell (p := ⟨w.heap.size + 1, 1, none⟩) (by simp)]; simp [go_sem]
        have f0 : w1.frozen? ⟨w.heap.size + 1, 0, none⟩ = false := by rw [hb.frozen (p := ⟨w.heap.size + 1, 0, none⟩) (by simp)]; simp [go_sem]
        have f1 : w1.frozen? ⟨w.heap.size + 1, 1, none⟩ = false := by rw [hb.frozen (p := ⟨w.heap.size + 1, 1, none⟩) (by simp)]; simp [go_sem]
        have hs : w.heap.size + 1 < w1.heap.size := by have := hb.size; simp at this; omega
        have HB := Lib.hid (((Below.refl _ w).alloc (Nat.le_refl _) (Obj.cells #[Value.int IntKind.i64 L, Value.slice A l.length c] 28)).alloc (by simp) (Obj.cells #[Value.int IntKind.i64 0, Value.slice none 0 0] 28) |>.trans (hb.mono (by simp; omega)))
        have c0 : w1.cell? ⟨w.heap.size, 0, none⟩ = some (.int .i64 L) := by rw [hb.cell (p := ⟨w.heap.size, 0, none⟩) (by simp; omega)]; simp [go_sem]
        clear hb
        have hwl : IntKind.i64.wrap (L - 2) = L - 2 := IntWalk.i64_in _ (by omega)
        go_wp2_with fail
        refine (HI.out _).mono ?_
        rintro e w2 ⟨rfl, rfl⟩
        go_wp2
        refine bodyPost_ret (v := .tuple #[.agg #[.int .i64 0, .slice none 0 0], .bool false]) (by simp [results, Try.results31, go_sem, r0, r1]) rfl ⟨none, 0, 0, ret_rod HV.out.1.symm rfl HV.out.2.2.symm, by rw [HV.out.2.1]; rfl, by rw [HV.out.2.1]; exact SlOwn.nil pairS _ _ _, ?_⟩
        exact (HB.out.setCell (by simp) _).setCell (by simp) _
      | true =>
        have hpm : s.tmod 2 = 0 := by rw [HPE.out]; simpa using hp
        have HV : Hid (spL s L l = L ∧ spA s L l = srtA (l.map (spnC L s)) ∧ spB s L l = true) := by show _ ∧ _ ∧ _; simp [spL, spA, spB, hg, hi, hp]
        have hn : (l.length : Int) ≤ 16 := by have := ciB_len hg; omega
        have HGG := Lib.hid hg
        clear hg hi hp
        go_enter Try.func31, Try.ntmps31
        go_wp2_with fail
        refine (HG.out _ HA.out).mono ?_
        rintro e w1 ⟨rfl, hb⟩
        have r0 : w1.cell? ⟨w.heap.size + 1, 0, none⟩ = some (.int .i64 0) := by rw [hb.cell (p := ⟨w.heap.size + 1, 0, none⟩) (by simp)]; simp [go_sem]
        have r1 : w1.cell? ⟨w.heap.size + 1, 1, none⟩ = some (.slice none 0 0) := by rw [hb.cell (p := ⟨w.heap.size + 1, 1, none⟩) (by simp)]; simp [go_sem]
        have f0 : w1.frozen? ⟨w.heap.size + 1, 0, none⟩ = false := by rw [hb.frozen (p := ⟨w.heap.size + 1, 0, none⟩) (by simp)]; simp [go_sem]
        have f1 : w1.frozen? ⟨w.heap.size + 1, 1, none⟩ = false := by rw [hb.frozen (p := ⟨w.heap.size + 1, 1, none⟩) (by simp)]; simp [go_sem]
        have hs : w.heap.size + 1 < w1.heap.size := by have := hb.size; simp at this; omega
        have HB := Lib.hid (((Below.refl _ w).alloc (Nat.le_refl _) (Obj.cells #[Value.int IntKind.i64 L, Value.slice A l.length c] 28)).alloc (by simp) (Obj.cells #[Value.int IntKind.i64 0, Value.slice none 0 0] 28) |>.trans (hb.mono (by simp; omega)))
        have c0 : w1.cell? ⟨w.heap.size, 0, none⟩ = some (.int .i64 L) := by rw [hb.cell (p := ⟨w.heap.size, 0, none⟩) (by simp; omega)]; simp [go_sem]
        have c1 : w1.cell? ⟨w.heap.size, 1, none⟩ = some (.slice A l.length c) := by rw [hb.cell (p := ⟨w.heap.size, 1, none⟩) (by simp; omega)]; simp [go_sem]
        have HA1 := Lib.hid (HA.out.below hb)
        have hs0 : w.heap.size < w1.heap.size := by omega
        clear hb
        have hwl : IntKind.i64.wrap (L - 2) = L - 2 := IntWalk.i64_in _ (by omega)
        go_wp2_with fail
        refine (HI.out _).mono ?_
        rintro e w2 ⟨rfl, rfl⟩
        go_wp2
        clear hpm
        go_loopw [32] (fun i wr => ∃ (k : Nat) (A3 : Option Addr) (c3 : Nat), k ≤ l.length ∧ i = .int .i64 k ∧ Below w1.heap.size w1 wr ∧ w1.heap.size < wr.heap.size ∧ wr.cell? ⟨w1.heap.size, 0, none⟩ = some (.int .i64 L) ∧ wr.cell? ⟨w1.heap.size, 1, none⟩ = some (.slice A3 (srtA ((l.take k).map (spnC L s))).length c3) ∧ wr.frozen? ⟨w1.heap.size, 0, none⟩ = false ∧ wr.frozen? ⟨w1.heap.size, 1, none⟩ = false ∧ SlOwn pairS wr (w1.heap.size + 1) 59 (.slice A3 (srtA ((l.take k).map (spnC L s))).length c3) (srtA ((l.take k).map (spnC L s))))
          (fun i _ => l.length - (intOf i).toNat)
        case atStart => exact ⟨0, none, 0, Nat.zero_le _, rfl, (Below.refl _ _).alloc (Nat.le_refl _) _, by simp, by simp [go_sem], by simp [go_sem, srtA_nil], by simp [go_sem], by simp [go_sem], by rw [List.take_zero, List.map_nil, srtA_nil]; exact SlOwn.nil pairS _ _ _⟩
        case round =>
          obtain ⟨k, A3, c3, hk, rfl, hb, hs3, o0, o1, g0, g1, hown⟩ := hrel
          have HBr := Lib.hid hb
          have hsr : w.heap.size < wr.heap.size := by omega
          have HAr := Lib.hid (HA1.out.below hb)
          have c0 := Below.cell_some hb c0
          have c1 := Below.cell_some hb c1
          have r0 := Below.cell_some hb r0
          have r1 := Below.cell_some hb r1
          have f0 := (hb.frozen (p := ⟨w.heap.size + 1, 0, none⟩) hs).trans f0
          have f1 := (hb.frozen (p := ⟨w.heap.size + 1, 1, none⟩) hs).trans f1
          have HO := Lib.hid hown
          clear hb hown
          by_cases hlt : k < l.length
          · obtain ⟨b, off, rfl, l0, hc⟩ := HAr.out.at_ hlt
            obtain ⟨a0, a1⟩ := hc k hlt
            have hx : l[k]? = some (l.getD k (0, 0)) := by rw [List.getD_eq_getElem?_getD, List.getElem?_eq_getElem hlt]; rfl
            have HSN := Lib.hid (srt_snoc (spnC L s) l k _ hx)
            obtain ⟨q0, q1, qw⟩ := ciB_way HGG.out hx
            have hlen : (srtA ((l.take k).map (spnC L s))).length = k := by rw [srtA_len, List.length_map, List.length_take]; omega
            have HLEN := Lib.hid hlen
            clear hc hx hlen
            generalize l.getD k (0, 0) = x at *
            obtain ⟨x1, x2⟩ := x
            simp only at a0 a1 q0 q1 qw
            have hw1 : IntKind.i64.wrap (x1 + s) = x1 + s := IntWalk.i64_in _ (by omega)
            have htm0 : (x1 + s).tmod L = (x1 + s) % L := Int.tmod_eq_emod_of_nonneg (by omega)
            have hb0 := Int.emod_nonneg (x1 + s) (show L ≠ 0 by omega)
            have hb1 := Int.emod_lt_of_pos (x1 + s) (show 0 < L by omega)
            obtain ⟨v, hv⟩ : ∃ v, v = (x1 + s) % L := ⟨_, rfl⟩
            have htm : (x1 + s).tmod L = v := by rw [htm0, hv]
            rw [← hv] at hb0 hb1
            have HSN : Hid (putA (srtA ((l.take k).map (spnC L s))) (v, x2) = srtA ((l.take (k + 1)).map (spnC L s))) := by show _ = _; rw [hv]; exact HSN.out
            clear htm0 hv
            have hw3 : IntKind.i64.wrap v = v := IntWalk.i64_in _ (by omega)
            have hLn : ¬ L = 0 := by omega
            have HPUT := Lib.hid (fun W (hW : SlOwn pairS W (w1.heap.size + 1) 59 (.slice A3 (srtA ((l.take k).map (spnC L s))).length c3) (srtA ((l.take k).map (spnC L s)))) => roPut_any A3 c3 (srtA ((l.take k).map (spnC L s))) (v) (x2) W (by have := HLEN.out; omega) (own_cap hW) (slAt_ants hW.sl))
            generalize (srtA ((l.take k).map (spnC L s))) = m at *
            clear q0 q1 qw
            have x0 : (wr.alloc (Obj.cells #[Value.int IntKind.i64 x1, Value.int IntKind.i64 x2] 59)).cell? ⟨wr.heap.size, 0, none⟩ = some (.int .i64 x1) := by simp
            have x1' : (wr.alloc (Obj.cells #[Value.int IntKind.i64 x1, Value.int IntKind.i64 x2] 59)).cell? ⟨wr.heap.size, 1, none⟩ = some (.int .i64 x2) := by simp
            have HBX : Hid (Below wr.heap.size wr (wr.alloc (Obj.cells #[Value.int IntKind.i64 x1, Value.int IntKind.i64 x2] 59))) := (Below.refl _ _).alloc (Nat.le_refl _) _
            go_wp2
            generalize wr.alloc (Obj.cells #[Value.int IntKind.i64 x1, Value.int IntKind.i64 x2] 59) = X at *
            refine wp_region_tailY 12 (by kernel_rfl) (by kernel_rfl) (fun Y hY => ?_)
            have HBY : Hid (Below wr.heap.size wr Y) := by show Below _ _ _; rw [hY]; exact HBX.out.drew
            have x0 : Y.cell? ⟨wr.heap.size, 0, none⟩ = some (.int .i64 x1) := by rw [hY]; exact x0
            have x1' : Y.cell? ⟨wr.heap.size, 1, none⟩ = some (.int .i64 x2) := by rw [hY]; exact x1'
            have c0 := Below.cell_some HBY.out c0
            have o0 := Below.cell_some HBY.out o0
            have o1 := Below.cell_some HBY.out o1
            have g0 := (HBY.out.frozen (p := ⟨w1.heap.size, 0, none⟩) hs3).trans g0
            have g1 := (HBY.out.frozen (p := ⟨w1.heap.size, 1, none⟩) hs3).trans g1
            have r0 := Below.cell_some HBY.out r0
            have r1 := Below.cell_some HBY.out r1
            clear hY HBX
            simp only [List.take_succ_cons, List.take_zero, List.drop_succ_cons, List.drop_zero]
            repeat still_step
            refine wpStill_nil ?_
            go_wp2_with fail
            refine (HPUT.out _ (HO.out.below HBY.out)).mono ?_
            rintro e w3 ⟨A4, n4, c4, rfl, hn4, ho4, hb4⟩
            subst hn4
            have hbq : Below wr.heap.size wr w3 := HBY.out.trans (hb4.mono HBY.out.size)
            have hsy := HBY.out.size
            have o0 := Below.cell_some hb4 o0
            have o1 := Below.cell_some hb4 o1
            have g0 := (hb4.frozen (p := ⟨w1.heap.size, 0, none⟩) (by simp only; omega)).trans g0
            have g1 := (hb4.frozen (p := ⟨w1.heap.size, 1, none⟩) (by simp only; omega)).trans g1
            have hs4 : w1.heap.size < w3.heap.size := Nat.lt_of_lt_of_le hs3 hbq.size
            have HB4 := Lib.hid (HBr.out.trans (hbq.mono (Nat.le_of_lt hs3)))
            have HO4 : Hid (SlOwn pairS w3 (w1.heap.size + 1) 59 (.slice A4 (putA m (v, x2)).length c4) (putA m (v, x2))) := AntsOwn.base ho4 (by omega)
            clear ho4 hbq hb4
            go_wp2
            go_roundw
            case rel =>
              refine ⟨k + 1, A4, c4, by omega, by go_num, HB4.out.setCell (Nat.le_refl _) _, by simpa using hs4, ?_, ?_, ?_, ?_, ?_⟩
              · simp [go_sem, o0]
              · rw [← HSN.out]; simp [go_sem, o1]
                try rfl
              · simp [go_sem, g0]
              · simp [go_sem, g1]
              · rw [← HSN.out]; exact ownsRow_setCell_below HO4.out (by simp) _
            case measure => simp [intOf]; omega
          · obtain rfl : k = l.length := by omega
            have HE : Hid ((srtA ((l.take l.length).map (spnC L s))) = spA s L l) := by show _ = _; rw [List.take_length, HV.out.2.1]
            rw [HE.out] at o1
            have HO5 : Hid (SlOwn pairS wr (w1.heap.size + 1) 59 (.slice A3 (spA s L l).length c3) (spA s L l)) := by
              have := HO.out
              rwa [HE.out] at this
            have hs5 : w.heap.size + 1 < wr.heap.size := by omega
            have HB5 := Lib.hid (HB.out.trans (HBr.out.mono HB.out.size))
            go_wp2
            refine bodyPost_ret (v := .tuple #[.agg #[.int .i64 L, .slice A3 (spA s L l).length c3], .bool true]) (by simp [results, Try.results31, go_sem, r0, r1]) rfl ⟨A3, _, c3, ret_rod HV.out.1.symm rfl HV.out.2.2.symm, rfl, ?_, ?_⟩
            · exact ownsRow_base (ownsRow_setCell_below (ownsRow_setCell_below HO5.out (by simp; omega) _) (by simp; omega) _) (by omega)
            · exact (HB5.out.setCell (by simp) _).setCell (by simp) _


end Go.Proofs.Ytdoikeglaolipaa
