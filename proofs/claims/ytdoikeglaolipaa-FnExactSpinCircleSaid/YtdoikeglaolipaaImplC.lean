/- The program's MirrorCircle, BackCircle and SpinCircle: circleOf by a move. -/
import Derived.Test.YtdoikeglaolipaaCrewD
import Derived.Test.YtdoikeglaolipaaSpecSpin
namespace Go.Proofs.Ytdoikeglaolipaa
open Go.RowKit


set_option maxRecDepth 100000 in
set_option maxHeartbeats 1000000 in
theorem implMirrorCircle_any (L : Int) (A : Option Addr) (c : Nat) (l : List (Int × Int)) (w : World) (_hcap : l.length ≤ c) (hA : AntsAt w A l) :
    Calls Try.prog 30 #[.agg #[.int .i64 L, .slice A l.length c]] w fun e w' => ∃ A' n' c', e = .returned (.tuple #[.agg #[.int .i64 (cirL L l), .slice A' n' c'], .bool (ciB L l)]) ∧ n' = (mcA L l).length ∧ AntsOwn w' w.heap.size 59 (.slice A' n' c') (mcA L l) ∧ Below w.heap.size w w' := by
  obtain ⟨W0, hW0⟩ : ∃ W0, W0 = (w.alloc (Obj.cells #[Value.int IntKind.i64 L, Value.slice A l.length c] 28)).alloc (Obj.cells #[Value.int IntKind.i64 0, Value.slice none 0 0] 28) := ⟨_, rfl⟩
  have HB0 : Hid (Below w.heap.size w W0) := by show Below _ _ _; rw [hW0]; exact ((Below.refl _ w).alloc (Nat.le_refl _) _).alloc (by simp) _
  have hs0 : W0.heap.size = w.heap.size + 2 := by rw [hW0]; simp
  have c0 : W0.cell? ⟨w.heap.size, 0, none⟩ = some (.int .i64 L) := by rw [hW0]; exact alloc_some (by simp) _
  have c1 : W0.cell? ⟨w.heap.size, 1, none⟩ = some (.slice A l.length c) := by rw [hW0]; exact alloc_some (by simp) _
  have r0 : W0.cell? ⟨w.heap.size + 1, 0, none⟩ = some (.int .i64 0) := by rw [hW0]; simp
  have r1 : W0.cell? ⟨w.heap.size + 1, 1, none⟩ = some (.slice none 0 0) := by rw [hW0]; simp
  have f0 : W0.frozen? ⟨w.heap.size + 1, 0, none⟩ = false := by rw [hW0]; simp
  have f1 : W0.frozen? ⟨w.heap.size + 1, 1, none⟩ = false := by rw [hW0]; simp
  have HA := Lib.hid (hA.below HB0.out)
  clear hA
  have HG : Hid (∀ w, AntsAt w A l → Calls Try.prog 41 #[.agg #[.int .i64 L, .slice A l.length c]] w fun e w' => e = .returned (.bool (ciB L l)) ∧ Below w.heap.size w w') := fun w h => isCircle_any L A c l w h
  cases hg : ciB L l with
  | false =>
    rw [hg] at HG
    have HV : Hid (cirL L l = 0 ∧ mcA L l = [] ∧ ciB L l = false) := by show _ ∧ _ ∧ _; simp [cirL, mcA, hg]
    go_enter Try.func30, Try.ntmps30
    go_wp2_with fail
    generalize hQ : World.alloc (World.alloc w _) _ = W1
    obtain rfl : W1 = W0 := by rw [hW0, ← hQ]
    clear hQ hW0
    refine (HG.out _ HA.out).mono ?_
    rintro e w1 ⟨rfl, hb⟩
    have HB := Lib.hid (HB0.out.trans (hb.mono (by omega)))
    have hs1 := hb.size
    have c0 := Below.cell_some hb c0
    have c1 := Below.cell_some hb c1
    have r0 := Below.cell_some hb r0
    have r1 := Below.cell_some hb r1
    have f0 := (hb.frozen (p := ⟨w.heap.size + 1, 0, none⟩) (by simp only; omega)).trans f0
    have f1 := (hb.frozen (p := ⟨w.heap.size + 1, 1, none⟩) (by simp only; omega)).trans f1
    have HA1 := Lib.hid (HA.out.below hb)
    clear hb
    go_wp2
    refine bodyPost_ret (v := .tuple #[.agg #[.int .i64 0, .slice none 0 0], .bool false]) (by simp [results, Try.results30, go_sem, r0, r1]) rfl ⟨none, 0, 0, ret_rod HV.out.1.symm rfl rfl, by rw [HV.out.2.1]; rfl, by rw [HV.out.2.1]; exact SlOwn.nil pairS _ _ _, ?_⟩
    exact (HB.out.setCell (by show _ ≤ _ + 1; omega) _).setCell (by show _ ≤ _ + 1; omega) _
  | true =>
    have HV : Hid (cirL L l = L ∧ mcA L l = srtA (l.map (mvC L (fun x => (-x.1, -x.2)))) ∧ ciB L l = true) := by
      show _ ∧ _ ∧ _
      have e : l.map (mvC L (fun x => (-x.1, -x.2))) = l.map (mirC L) := List.map_congr_left fun x hx => by
        obtain ⟨k, hk, rfl⟩ := List.mem_iff_getElem.1 hx
        obtain ⟨q0, q1, _⟩ := ciB_way hg (List.getElem?_eq_getElem hk)
        unfold mvC mirC; simp only [Prod.mk.injEq, and_true]; rw [show (L - (l[k]).1) = -(l[k]).1 + L by omega, Int.add_emod_right]
      rw [e]
      simp [cirL, mcA, hg]
    obtain ⟨hL0, hL1, _, hl16⟩ := ciB_len hg
    have HW : Hid (∀ x ∈ l, 0 ≤ x.1 ∧ x.1 ≤ L - 2 ∧ (x.2 = -1 ∨ x.2 = 1)) := fun x hx => by
      obtain ⟨k, hk, rfl⟩ := List.mem_iff_getElem.1 hx
      exact ciB_way hg (List.getElem?_eq_getElem hk)
    rw [hg] at HG
    clear hg
    go_enter Try.func30, Try.ntmps30
    go_wp2_with fail
    generalize hQ : World.alloc (World.alloc w _) _ = W1
    obtain rfl : W1 = W0 := by rw [hW0, ← hQ]
    clear hQ hW0
    refine (HG.out _ HA.out).mono ?_
    rintro e w1 ⟨rfl, hb⟩
    have HB := Lib.hid (HB0.out.trans (hb.mono (by omega)))
    have hs1 := hb.size
    have c0 := Below.cell_some hb c0
    have c1 := Below.cell_some hb c1
    have r0 := Below.cell_some hb r0
    have r1 := Below.cell_some hb r1
    have f0 := (hb.frozen (p := ⟨w.heap.size + 1, 0, none⟩) (by simp only; omega)).trans f0
    have f1 := (hb.frozen (p := ⟨w.heap.size + 1, 1, none⟩) (by simp only; omega)).trans f1
    have HA1 := Lib.hid (HA.out.below hb)
    clear hb
    have HC := Lib.hid (circleOf_any 55 #[] (fun x => (-x.1, -x.2)) L A c l w1 (enters_of Try.func55 (by kernel_rfl) rfl) hl16 (by omega) (by omega) (fun x hx => by have := HW.out x hx; constructor <;> simp only <;> omega) (fun x hx W hW => by rw [Array.append_empty]; have := HW.out x hx; exact mirrorM_any x W (by omega) (by omega)) HA1.out)
    go_wp2_with fail
    refine HC.out.mono ?_
    rintro e w2 ⟨A2, n2, k2, rfl, hn2, ho2, hb2⟩
    have hs2 := hb2.size
    have r0 := Below.cell_some hb2 r0
    have r1 := Below.cell_some hb2 r1
    have f0 := (hb2.frozen (p := ⟨w.heap.size + 1, 0, none⟩) (by simp only; omega)).trans f0
    have f1 := (hb2.frozen (p := ⟨w.heap.size + 1, 1, none⟩) (by simp only; omega)).trans f1
    have HB2 := Lib.hid (HB.out.trans (hb2.mono (by omega)))
    have HN2 := Lib.hid hn2
    have HO2 := Lib.hid ho2
    clear hb2 hn2 ho2 HC
    go_wp2
    refine bodyPost_ret (v := .tuple #[.agg #[.int .i64 L, .slice A2 n2 k2], .bool true]) (by simp [results, Try.results30, go_sem, r0, r1]) rfl ⟨A2, n2, k2, ret_rod HV.out.1.symm rfl rfl, by rw [HV.out.2.1, HN2.out, srtA_len, List.length_map], ?_, ?_⟩
    · rw [HV.out.2.1]
      exact ownsRow_base (ownsRow_setCell_below (ownsRow_setCell_below HO2.out (by simp; omega) _) (by simp; omega) _) (by omega)
    · exact (HB2.out.setCell (by show _ ≤ _ + 1; omega) _).setCell (by show _ ≤ _ + 1; omega) _

set_option maxRecDepth 100000 in
set_option maxHeartbeats 1000000 in
theorem implBackCircle_any (L : Int) (A : Option Addr) (c : Nat) (l : List (Int × Int)) (w : World) (_hcap : l.length ≤ c) (hA : AntsAt w A l) :
    Calls Try.prog 34 #[.agg #[.int .i64 L, .slice A l.length c]] w fun e w' => ∃ A' n' c', e = .returned (.tuple #[.agg #[.int .i64 (cirL L l), .slice A' n' c'], .bool (ciB L l)]) ∧ n' = (bcA L l).length ∧ AntsOwn w' w.heap.size 59 (.slice A' n' c') (bcA L l) ∧ Below w.heap.size w w' := by
  obtain ⟨W0, hW0⟩ : ∃ W0, W0 = (w.alloc (Obj.cells #[Value.int IntKind.i64 L, Value.slice A l.length c] 28)).alloc (Obj.cells #[Value.int IntKind.i64 0, Value.slice none 0 0] 28) := ⟨_, rfl⟩
  have HB0 : Hid (Below w.heap.size w W0) := by show Below _ _ _; rw [hW0]; exact ((Below.refl _ w).alloc (Nat.le_refl _) _).alloc (by simp) _
  have hs0 : W0.heap.size = w.heap.size + 2 := by rw [hW0]; simp
  have c0 : W0.cell? ⟨w.heap.size, 0, none⟩ = some (.int .i64 L) := by rw [hW0]; exact alloc_some (by simp) _
  have c1 : W0.cell? ⟨w.heap.size, 1, none⟩ = some (.slice A l.length c) := by rw [hW0]; exact alloc_some (by simp) _
  have r0 : W0.cell? ⟨w.heap.size + 1, 0, none⟩ = some (.int .i64 0) := by rw [hW0]; simp
  have r1 : W0.cell? ⟨w.heap.size + 1, 1, none⟩ = some (.slice none 0 0) := by rw [hW0]; simp
  have f0 : W0.frozen? ⟨w.heap.size + 1, 0, none⟩ = false := by rw [hW0]; simp
  have f1 : W0.frozen? ⟨w.heap.size + 1, 1, none⟩ = false := by rw [hW0]; simp
  have HA := Lib.hid (hA.below HB0.out)
  clear hA
  have HG : Hid (∀ w, AntsAt w A l → Calls Try.prog 41 #[.agg #[.int .i64 L, .slice A l.length c]] w fun e w' => e = .returned (.bool (ciB L l)) ∧ Below w.heap.size w w') := fun w h => isCircle_any L A c l w h
  cases hg : ciB L l with
  | false =>
    rw [hg] at HG
    have HV : Hid (cirL L l = 0 ∧ bcA L l = [] ∧ ciB L l = false) := by show _ ∧ _ ∧ _; simp [cirL, bcA, hg]
    go_enter Try.func34, Try.ntmps34
    go_wp2_with fail
    generalize hQ : World.alloc (World.alloc w _) _ = W1
    obtain rfl : W1 = W0 := by rw [hW0, ← hQ]
    clear hQ hW0
    refine (HG.out _ HA.out).mono ?_
    rintro e w1 ⟨rfl, hb⟩
    have HB := Lib.hid (HB0.out.trans (hb.mono (by omega)))
    have hs1 := hb.size
    have c0 := Below.cell_some hb c0
    have c1 := Below.cell_some hb c1
    have r0 := Below.cell_some hb r0
    have r1 := Below.cell_some hb r1
    have f0 := (hb.frozen (p := ⟨w.heap.size + 1, 0, none⟩) (by simp only; omega)).trans f0
    have f1 := (hb.frozen (p := ⟨w.heap.size + 1, 1, none⟩) (by simp only; omega)).trans f1
    have HA1 := Lib.hid (HA.out.below hb)
    clear hb
    go_wp2
    refine bodyPost_ret (v := .tuple #[.agg #[.int .i64 0, .slice none 0 0], .bool false]) (by simp [results, Try.results34, go_sem, r0, r1]) rfl ⟨none, 0, 0, ret_rod HV.out.1.symm rfl rfl, by rw [HV.out.2.1]; rfl, by rw [HV.out.2.1]; exact SlOwn.nil pairS _ _ _, ?_⟩
    exact (HB.out.setCell (by show _ ≤ _ + 1; omega) _).setCell (by show _ ≤ _ + 1; omega) _
  | true =>
    have HV : Hid (cirL L l = L ∧ bcA L l = srtA (l.map (mvC L (fun x => (x.1, -x.2)))) ∧ ciB L l = true) := by
      show _ ∧ _ ∧ _
      have e : l.map (mvC L (fun x => (x.1, -x.2))) = l.map turnF := List.map_congr_left fun x hx => by
        obtain ⟨k, hk, rfl⟩ := List.mem_iff_getElem.1 hx
        obtain ⟨q0, q1, _⟩ := ciB_way hg (List.getElem?_eq_getElem hk)
        unfold mvC turnF; simp only [Prod.mk.injEq, and_true]; exact Int.emod_eq_of_lt q0 (by omega)
      rw [e]
      simp [cirL, bcA, hg]
    obtain ⟨hL0, hL1, _, hl16⟩ := ciB_len hg
    have HW : Hid (∀ x ∈ l, 0 ≤ x.1 ∧ x.1 ≤ L - 2 ∧ (x.2 = -1 ∨ x.2 = 1)) := fun x hx => by
      obtain ⟨k, hk, rfl⟩ := List.mem_iff_getElem.1 hx
      exact ciB_way hg (List.getElem?_eq_getElem hk)
    rw [hg] at HG
    clear hg
    go_enter Try.func34, Try.ntmps34
    go_wp2_with fail
    generalize hQ : World.alloc (World.alloc w _) _ = W1
    obtain rfl : W1 = W0 := by rw [hW0, ← hQ]
    clear hQ hW0
    refine (HG.out _ HA.out).mono ?_
    rintro e w1 ⟨rfl, hb⟩
    have HB := Lib.hid (HB0.out.trans (hb.mono (by omega)))
    have hs1 := hb.size
    have c0 := Below.cell_some hb c0
    have c1 := Below.cell_some hb c1
    have r0 := Below.cell_some hb r0
    have r1 := Below.cell_some hb r1
    have f0 := (hb.frozen (p := ⟨w.heap.size + 1, 0, none⟩) (by simp only; omega)).trans f0
    have f1 := (hb.frozen (p := ⟨w.heap.size + 1, 1, none⟩) (by simp only; omega)).trans f1
    have HA1 := Lib.hid (HA.out.below hb)
    clear hb
    have HC := Lib.hid (circleOf_any 57 #[] (fun x => (x.1, -x.2)) L A c l w1 (enters_of Try.func57 (by kernel_rfl) rfl) hl16 (by omega) (by omega) (fun x hx => by have := HW.out x hx; constructor <;> simp only <;> omega) (fun x hx W hW => by rw [Array.append_empty]; have := HW.out x hx; exact backM_any x W (by omega) (by omega)) HA1.out)
    go_wp2_with fail
    refine HC.out.mono ?_
    rintro e w2 ⟨A2, n2, k2, rfl, hn2, ho2, hb2⟩
    have hs2 := hb2.size
    have r0 := Below.cell_some hb2 r0
    have r1 := Below.cell_some hb2 r1
    have f0 := (hb2.frozen (p := ⟨w.heap.size + 1, 0, none⟩) (by simp only; omega)).trans f0
    have f1 := (hb2.frozen (p := ⟨w.heap.size + 1, 1, none⟩) (by simp only; omega)).trans f1
    have HB2 := Lib.hid (HB.out.trans (hb2.mono (by omega)))
    have HN2 := Lib.hid hn2
    have HO2 := Lib.hid ho2
    clear hb2 hn2 ho2 HC
    go_wp2
    refine bodyPost_ret (v := .tuple #[.agg #[.int .i64 L, .slice A2 n2 k2], .bool true]) (by simp [results, Try.results34, go_sem, r0, r1]) rfl ⟨A2, n2, k2, ret_rod HV.out.1.symm rfl rfl, by rw [HV.out.2.1, HN2.out, srtA_len, List.length_map], ?_, ?_⟩
    · rw [HV.out.2.1]
      exact ownsRow_base (ownsRow_setCell_below (ownsRow_setCell_below HO2.out (by simp; omega) _) (by simp; omega) _) (by omega)
    · exact (HB2.out.setCell (by show _ ≤ _ + 1; omega) _).setCell (by show _ ≤ _ + 1; omega) _

set_option maxRecDepth 100000 in
set_option maxHeartbeats 1000000 in
theorem implSpinCircle_any (L : Int) (A : Option Addr) (c : Nat) (l : List (Int × Int)) (s : Int) (w : World) (_hcap : l.length ≤ c) (hA : AntsAt w A l) :
    Calls Try.prog 32 #[.agg #[.int .i64 L, .slice A l.length c], .int .i64 s] w fun e w' => ∃ A' n' c', e = .returned (.tuple #[.agg #[.int .i64 (spL s L l), .slice A' n' c'], .bool (spB s L l)]) ∧ n' = (spA s L l).length ∧ AntsOwn w' w.heap.size 59 (.slice A' n' c') (spA s L l) ∧ Below w.heap.size w w' := by
  obtain ⟨W0, hW0⟩ : ∃ W0, W0 = ((w.alloc (Obj.cells #[Value.int IntKind.i64 L, Value.slice A l.length c] 28)).alloc (Obj.cells #[Value.int IntKind.i64 s] 3)).alloc (Obj.cells #[Value.int IntKind.i64 0, Value.slice none 0 0] 28) := ⟨_, rfl⟩
  have HB0 : Hid (Below w.heap.size w W0) := by show Below _ _ _; rw [hW0]; exact (((Below.refl _ w).alloc (Nat.le_refl _) _).alloc (by simp) _).alloc (by simp; omega) _
  have hs0 : W0.heap.size = w.heap.size + 3 := by rw [hW0]; simp
  have c0 : W0.cell? ⟨w.heap.size, 0, none⟩ = some (.int .i64 L) := by rw [hW0]; exact alloc_some (alloc_some (by simp) _) _
  have c1 : W0.cell? ⟨w.heap.size, 1, none⟩ = some (.slice A l.length c) := by rw [hW0]; exact alloc_some (alloc_some (by simp) _) _
  have b0 : W0.cell? ⟨w.heap.size + 1, 0, none⟩ = some (.int .i64 s) := by rw [hW0]; exact alloc_some (by simp) _
  have r0 : W0.cell? ⟨w.heap.size + 1 + 1, 0, none⟩ = some (.int .i64 0) := by rw [hW0]; unfold World.cell?; rw [heap_new (w := (w.alloc (Obj.cells #[Value.int IntKind.i64 L, Value.slice A l.length c] 28)).alloc (Obj.cells #[Value.int IntKind.i64 s] 3)) (n := w.heap.size + 1 + 1) (by simp)]; rfl
  have r1 : W0.cell? ⟨w.heap.size + 1 + 1, 1, none⟩ = some (.slice none 0 0) := by rw [hW0]; unfold World.cell?; rw [heap_new (w := (w.alloc (Obj.cells #[Value.int IntKind.i64 L, Value.slice A l.length c] 28)).alloc (Obj.cells #[Value.int IntKind.i64 s] 3)) (n := w.heap.size + 1 + 1) (by simp)]; rfl
  have f0 : W0.frozen? ⟨w.heap.size + 1 + 1, 0, none⟩ = false := by rw [hW0]; unfold World.frozen?; rw [heap_new (w := (w.alloc (Obj.cells #[Value.int IntKind.i64 L, Value.slice A l.length c] 28)).alloc (Obj.cells #[Value.int IntKind.i64 s] 3)) (n := w.heap.size + 1 + 1) (by simp)]; rfl
  have f1 : W0.frozen? ⟨w.heap.size + 1 + 1, 1, none⟩ = false := by rw [hW0]; unfold World.frozen?; rw [heap_new (w := (w.alloc (Obj.cells #[Value.int IntKind.i64 L, Value.slice A l.length c] 28)).alloc (Obj.cells #[Value.int IntKind.i64 s] 3)) (n := w.heap.size + 1 + 1) (by simp)]; rfl
  have HA := Lib.hid (hA.below HB0.out)
  clear hA
  have HG : Hid (∀ w, AntsAt w A l → Calls Try.prog 41 #[.agg #[.int .i64 L, .slice A l.length c]] w fun e w' => e = .returned (.bool (ciB L l)) ∧ Below w.heap.size w w') := fun w h => isCircle_any L A c l w h
  cases hg : ciB L l with
  | false =>
    have HV : Hid (spL s L l = 0 ∧ spA s L l = [] ∧ spB s L l = false) := by
      have hb : spB s L l = false := by unfold spB; simp [hg]
      show _ ∧ _ ∧ _; simp [spL, spA, hb]
    rw [hg] at HG
    clear hg
    go_enter Try.func32, Try.ntmps32
    go_wp2_with fail
    generalize hQ : World.alloc (World.alloc (World.alloc w _) _) _ = W1
    obtain rfl : W1 = W0 := by rw [hW0, ← hQ]
    clear hQ hW0
    refine (HG.out _ HA.out).mono ?_
    rintro e w1 ⟨rfl, hb⟩
    have HB := Lib.hid (HB0.out.trans (hb.mono (by omega)))
    have hs1 := hb.size
    have c0 := Below.cell_some hb c0
    have c1 := Below.cell_some hb c1
    have b0 := Below.cell_some hb b0
    have r0 := Below.cell_some hb r0
    have r1 := Below.cell_some hb r1
    have f0 := (hb.frozen (p := ⟨w.heap.size + 1 + 1, 0, none⟩) (by simp only; omega)).trans f0
    have f1 := (hb.frozen (p := ⟨w.heap.size + 1 + 1, 1, none⟩) (by simp only; omega)).trans f1
    have HA1 := Lib.hid (HA.out.below hb)
    clear hb
    go_wp2
    refine bodyPost_ret (v := .tuple #[.agg #[.int .i64 0, .slice none 0 0], .bool false]) (by simp [results, Try.results32, go_sem, r0, r1]) rfl ⟨none, 0, 0, ret_rod HV.out.1.symm rfl HV.out.2.2.symm, by rw [HV.out.2.1]; rfl, by rw [HV.out.2.1]; exact SlOwn.nil pairS _ _ _, ?_⟩
    exact (HB.out.setCell (by show _ ≤ _ + 1; omega) _).setCell (by show _ ≤ _ + 1; omega) _
  | true =>
    by_cases h0 : s < 0
    · have HV : Hid (spL s L l = 0 ∧ spA s L l = [] ∧ spB s L l = false) := by
        have hb : spB s L l = false := by unfold spB; have h9 : ¬ 0 ≤ s := (by omega); simp [h9]
        show _ ∧ _ ∧ _; simp [spL, spA, hb]
      rw [hg] at HG
      clear hg
      go_enter Try.func32, Try.ntmps32
      go_wp2_with fail
      generalize hQ : World.alloc (World.alloc (World.alloc w _) _) _ = W1
      obtain rfl : W1 = W0 := by rw [hW0, ← hQ]
      clear hQ hW0
      refine (HG.out _ HA.out).mono ?_
      rintro e w1 ⟨rfl, hb⟩
      have HB := Lib.hid (HB0.out.trans (hb.mono (by omega)))
      have hs1 := hb.size
      have c0 := Below.cell_some hb c0
      have c1 := Below.cell_some hb c1
      have b0 := Below.cell_some hb b0
      have r0 := Below.cell_some hb r0
      have r1 := Below.cell_some hb r1
      have f0 := (hb.frozen (p := ⟨w.heap.size + 1 + 1, 0, none⟩) (by simp only; omega)).trans f0
      have f1 := (hb.frozen (p := ⟨w.heap.size + 1 + 1, 1, none⟩) (by simp only; omega)).trans f1
      have HA1 := Lib.hid (HA.out.below hb)
      clear hb
      go_wp2
      refine bodyPost_ret (v := .tuple #[.agg #[.int .i64 0, .slice none 0 0], .bool false]) (by simp [results, Try.results32, go_sem, r0, r1]) rfl ⟨none, 0, 0, ret_rod HV.out.1.symm rfl HV.out.2.2.symm, by rw [HV.out.2.1]; rfl, by rw [HV.out.2.1]; exact SlOwn.nil pairS _ _ _, ?_⟩
      exact (HB.out.setCell (by show _ ≤ _ + 1; omega) _).setCell (by show _ ≤ _ + 1; omega) _
    by_cases h1 : L ≤ s
    · have HV : Hid (spL s L l = 0 ∧ spA s L l = [] ∧ spB s L l = false) := by
        have hb : spB s L l = false := by unfold spB; have h9 : ¬ s ≤ L - 2 := (by omega); simp [h9]
        show _ ∧ _ ∧ _; simp [spL, spA, hb]
      rw [hg] at HG
      clear hg
      go_enter Try.func32, Try.ntmps32
      go_wp2_with fail
      generalize hQ : World.alloc (World.alloc (World.alloc w _) _) _ = W1
      obtain rfl : W1 = W0 := by rw [hW0, ← hQ]
      clear hQ hW0
      refine (HG.out _ HA.out).mono ?_
      rintro e w1 ⟨rfl, hb⟩
      have HB := Lib.hid (HB0.out.trans (hb.mono (by omega)))
      have hs1 := hb.size
      have c0 := Below.cell_some hb c0
      have c1 := Below.cell_some hb c1
      have b0 := Below.cell_some hb b0
      have r0 := Below.cell_some hb r0
      have r1 := Below.cell_some hb r1
      have f0 := (hb.frozen (p := ⟨w.heap.size + 1 + 1, 0, none⟩) (by simp only; omega)).trans f0
      have f1 := (hb.frozen (p := ⟨w.heap.size + 1 + 1, 1, none⟩) (by simp only; omega)).trans f1
      have HA1 := Lib.hid (HA.out.below hb)
      clear hb
      go_wp2
      refine bodyPost_ret (v := .tuple #[.agg #[.int .i64 0, .slice none 0 0], .bool false]) (by simp [results, Try.results32, go_sem, r0, r1]) rfl ⟨none, 0, 0, ret_rod HV.out.1.symm rfl HV.out.2.2.symm, by rw [HV.out.2.1]; rfl, by rw [HV.out.2.1]; exact SlOwn.nil pairS _ _ _, ?_⟩
      exact (HB.out.setCell (by show _ ≤ _ + 1; omega) _).setCell (by show _ ≤ _ + 1; omega) _
    by_cases h2 : s % 2 = 0
    · have hpm : s.tmod 2 = 0 := by rw [Int.tmod_eq_emod_of_nonneg (by omega)]; exact h2
      obtain ⟨_, _, hLe, _⟩ := ciB_len hg
      have hbb : spB s L l = true := by
        unfold spB
        have k0 : 0 ≤ s := by omega
        have k1 : s ≤ L - 2 := by omega
        simp [hg, h2, k0, k1]
      have HV : Hid (spL s L l = L ∧ spA s L l = srtA (l.map (mvC L (fun x => (x.1 + s, x.2)))) ∧ spB s L l = true) := by
        show _ ∧ _ ∧ _
        have e : l.map (mvC L (fun x => (x.1 + s, x.2))) = l.map (spnC L s) := List.map_congr_left fun x hx => by
          obtain ⟨k, hk, rfl⟩ := List.mem_iff_getElem.1 hx
          obtain ⟨q0, q1, _⟩ := ciB_way hg (List.getElem?_eq_getElem hk)
          rfl
        rw [e]
        simp [spL, spA, hbb]
      obtain ⟨hL0, hL1, _, hl16⟩ := ciB_len hg
      have HW : Hid (∀ x ∈ l, 0 ≤ x.1 ∧ x.1 ≤ L - 2 ∧ (x.2 = -1 ∨ x.2 = 1)) := fun x hx => by
        obtain ⟨k, hk, rfl⟩ := List.mem_iff_getElem.1 hx
        exact ciB_way hg (List.getElem?_eq_getElem hk)
      rw [hg] at HG
      clear hg h2
      go_enter Try.func32, Try.ntmps32
      go_wp2_with fail
      generalize hQ : World.alloc (World.alloc (World.alloc w _) _) _ = W1
      obtain rfl : W1 = W0 := by rw [hW0, ← hQ]
      clear hQ hW0
      refine (HG.out _ HA.out).mono ?_
      rintro e w1 ⟨rfl, hb⟩
      have HB := Lib.hid (HB0.out.trans (hb.mono (by omega)))
      have hs1 := hb.size
      have c0 := Below.cell_some hb c0
      have c1 := Below.cell_some hb c1
      have b0 := Below.cell_some hb b0
      have r0 := Below.cell_some hb r0
      have r1 := Below.cell_some hb r1
      have f0 := (hb.frozen (p := ⟨w.heap.size + 1 + 1, 0, none⟩) (by simp only; omega)).trans f0
      have f1 := (hb.frozen (p := ⟨w.heap.size + 1 + 1, 1, none⟩) (by simp only; omega)).trans f1
      have HA1 := Lib.hid (HA.out.below hb)
      clear hb
      have HC := Lib.hid (circleOf_any 56 #[.pointer (some ⟨w.heap.size + 1, 0, none⟩)] (fun x => (x.1 + s, x.2)) L A c l w1 (enters_of Try.func56 (by kernel_rfl) rfl) hl16 (by omega) (by omega) (fun x hx => by have := HW.out x hx; constructor <;> simp only <;> omega) (fun x hx W hW => by have := HW.out x hx; exact spinM_any (w.heap.size + 1) s x W (by rw [hW.cell (p := ⟨w.heap.size + 1, 0, none⟩) (by simp only; omega)]; exact b0) (by omega) (by omega)) HA1.out)
      go_wp2_with fail
      refine HC.out.mono ?_
      rintro e w2 ⟨A2, n2, k2, rfl, hn2, ho2, hb2⟩
      have hs2 := hb2.size
      have r0 := Below.cell_some hb2 r0
      have r1 := Below.cell_some hb2 r1
      have f0 := (hb2.frozen (p := ⟨w.heap.size + 1 + 1, 0, none⟩) (by simp only; omega)).trans f0
      have f1 := (hb2.frozen (p := ⟨w.heap.size + 1 + 1, 1, none⟩) (by simp only; omega)).trans f1
      have HB2 := Lib.hid (HB.out.trans (hb2.mono (by omega)))
      have HN2 := Lib.hid hn2
      have HO2 := Lib.hid ho2
      clear hb2 hn2 ho2 HC
      go_wp2
      refine bodyPost_ret (v := .tuple #[.agg #[.int .i64 L, .slice A2 n2 k2], .bool true]) (by simp [results, Try.results32, go_sem, r0, r1]) rfl ⟨A2, n2, k2, ret_rod HV.out.1.symm rfl HV.out.2.2.symm, by rw [HV.out.2.1, HN2.out, srtA_len, List.length_map], ?_, ?_⟩
      · rw [HV.out.2.1]
        exact ownsRow_base (ownsRow_setCell_below (ownsRow_setCell_below HO2.out (by simp; omega) _) (by simp; omega) _) (by omega)
      · exact (HB2.out.setCell (by show _ ≤ _ + 1; omega) _).setCell (by show _ ≤ _ + 1; omega) _
    · have hpm2 : (s % 2 != 0) = true := by simpa using h2
      have HV : Hid (spL s L l = 0 ∧ spA s L l = [] ∧ spB s L l = false) := by
        have hb : spB s L l = false := by unfold spB; simp [h2]
        show _ ∧ _ ∧ _; simp [spL, spA, hb]
      rw [hg] at HG
      clear hg
      go_enter Try.func32, Try.ntmps32
      go_wp2_with fail
      generalize hQ : World.alloc (World.alloc (World.alloc w _) _) _ = W1
      obtain rfl : W1 = W0 := by rw [hW0, ← hQ]
      clear hQ hW0
      refine (HG.out _ HA.out).mono ?_
      rintro e w1 ⟨rfl, hb⟩
      have HB := Lib.hid (HB0.out.trans (hb.mono (by omega)))
      have hs1 := hb.size
      have c0 := Below.cell_some hb c0
      have c1 := Below.cell_some hb c1
      have b0 := Below.cell_some hb b0
      have r0 := Below.cell_some hb r0
      have r1 := Below.cell_some hb r1
      have f0 := (hb.frozen (p := ⟨w.heap.size + 1 + 1, 0, none⟩) (by simp only; omega)).trans f0
      have f1 := (hb.frozen (p := ⟨w.heap.size + 1 + 1, 1, none⟩) (by simp only; omega)).trans f1
      have HA1 := Lib.hid (HA.out.below hb)
      clear hb
      go_wp2
      refine bodyPost_ret (v := .tuple #[.agg #[.int .i64 0, .slice none 0 0], .bool false]) (by simp [results, Try.results32, go_sem, r0, r1]) rfl ⟨none, 0, 0, ret_rod HV.out.1.symm rfl HV.out.2.2.symm, by rw [HV.out.2.1]; rfl, by rw [HV.out.2.1]; exact SlOwn.nil pairS _ _ _, ?_⟩
      exact (HB.out.setCell (by show _ ≤ _ + 1; omega) _).setCell (by show _ ≤ _ + 1; omega) _

end Go.Proofs.Ytdoikeglaolipaa
