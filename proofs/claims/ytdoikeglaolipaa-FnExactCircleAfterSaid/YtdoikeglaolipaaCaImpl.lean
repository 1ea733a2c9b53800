/- The contract of the program's CircleAfter. -/
import Derived.Test.YtdoikeglaolipaaCaMath
import Derived.Test.YtdoikeglaolipaaCrewD
import Derived.Test.YtdoikeglaolipaaSpecMapC
namespace Go.Proofs.Ytdoikeglaolipaa
open Go.RowKit

set_option maxRecDepth 100000 in
set_option maxHeartbeats 1000000 in
theorem implCircleAfter_any (L : Int) (A : Option Addr) (c : Nat) (l : List (Int × Int)) (t : Int) (w : World) (_hcap : l.length ≤ c) (hA : AntsAt w A l) :
    Calls Try.prog 14 #[.agg #[.int .i64 L, .slice A l.length c], .int .i64 t] w fun e w' => ∃ A' n' c', e = .returned (.tuple #[.agg #[.int .i64 (caL L l t), .slice A' n' c'], .bool (aaOkC L l t)]) ∧ n' = (caA L l t).length ∧ AntsOwn w' w.heap.size 59 (.slice A' n' c') (caA L l t) ∧ Below w.heap.size w w' := by
  obtain ⟨W0, hW0⟩ : ∃ W0, W0 = (w.alloc (Obj.cells #[Value.int IntKind.i64 L, Value.slice A l.length c] 28)).alloc (Obj.cells #[Value.int IntKind.i64 0, Value.slice none 0 0] 28) := ⟨_, rfl⟩
  have HB0 : Hid (Below w.heap.size w W0) := by show Below _ _ _; rw [hW0]; exact ((Below.refl _ w).alloc (Nat.le_refl _) _).alloc (by simp) _
  have hs0 : W0.heap.size = w.heap.size + 2 := by rw [hW0]; simp
  have c0 : W0.cell? ⟨w.heap.size, 0, none⟩ = some (.int .i64 L) := by rw [hW0]; simp
  have c1 : W0.cell? ⟨w.heap.size, 1, none⟩ = some (.slice A l.length c) := by rw [hW0]; simp
  have r0 : W0.cell? ⟨w.heap.size + 1, 0, none⟩ = some (.int .i64 0) := by rw [hW0]; simp
  have r1 : W0.cell? ⟨w.heap.size + 1, 1, none⟩ = some (.slice none 0 0) := by rw [hW0]; simp
  have f0 : W0.frozen? ⟨w.heap.size + 1, 0, none⟩ = false := by rw [hW0]; simp
  have f1 : W0.frozen? ⟨w.heap.size + 1, 1, none⟩ = false := by rw [hW0]; simp
  have HA := Lib.hid (hA.below HB0.out)
  clear hA
  have HG : Hid (∀ w, AntsAt w A l → Calls Try.prog 41 #[.agg #[.int .i64 L, .slice A l.length c]] w fun e w' => e = .returned (.bool (ciB L l)) ∧ Below w.heap.size w w') := fun w h => isCircle_any L A c l w h
  have HT : Hid (∀ w, Calls Try.prog 42 #[.int .i64 t] w fun e w' => e = .returned (.bool (timeC t)) ∧ Below w.heap.size w w') := fun w => isRoundTime_at t _ rfl w
  cases hg : ciB L l with
  | false =>
    rw [hg] at HG
    have HV : Hid (caL L l t = 0 ∧ caA L l t = [] ∧ aaOkC L l t = false) := by
      have hb : aaOkC L l t = false := by simp [aaOkC, hg]
      show _ ∧ _ ∧ _; simp [caL, caA, hb]
    clear hg
    go_enter Try.func14, Try.ntmps14
    go_wp2_with fail
    generalize hQ : World.alloc (World.alloc w _) _ = W1
    obtain rfl : W1 = W0 := by rw [hW0, ← hQ]
    clear hQ hW0
    refine (HG.out _ HA.out).mono ?_
    rintro e w1 ⟨rfl, hb⟩
    have HB := Lib.hid (HB0.out.trans (hb.mono (by omega)))
    have hs1 := hb.size
    have c0 := Below.cell_some hb c0
    have c1 := Below.cell_some hb c1
    have r0 := Below.cell_some hb r0
    have r1 := Below.cell_some hb r1
    have f0 := (hb.frozen (p := ⟨w.heap.size + 1, 0, none⟩) (by simp only; omega)).trans f0
    have f1 := (hb.frozen (p := ⟨w.heap.size + 1, 1, none⟩) (by simp only; omega)).trans f1
    have HA1 := Lib.hid (HA.out.below hb)
    clear hb
    go_wp2
    refine bodyPost_ret (v := .tuple #[.agg #[.int .i64 0, .slice none 0 0], .bool false]) (by simp [results, Try.results14, go_sem, r0, r1]) rfl ⟨none, 0, 0, ret_rod HV.out.1.symm rfl HV.out.2.2.symm, by rw [HV.out.2.1]; rfl, by rw [HV.out.2.1]; exact SlOwn.nil pairS _ _ _, ?_⟩
    exact (HB.out.setCell (by simp) _).setCell (by simp) _
  | true =>
    rw [hg] at HG
    cases ht : timeC t with
    | false =>
      rw [ht] at HT
      have HV : Hid (caL L l t = 0 ∧ caA L l t = [] ∧ aaOkC L l t = false) := by
        have hb : aaOkC L l t = false := by simp [aaOkC, ht]
        show _ ∧ _ ∧ _; simp [caL, caA, hb]
      clear hg ht
      go_enter Try.func14, Try.ntmps14
      go_wp2_with fail
      generalize hQ : World.alloc (World.alloc w _) _ = W1
      obtain rfl : W1 = W0 := by rw [hW0, ← hQ]
      clear hQ hW0
      refine (HG.out _ HA.out).mono ?_
      rintro e w1 ⟨rfl, hb⟩
      have HB := Lib.hid (HB0.out.trans (hb.mono (by omega)))
      have hs1 := hb.size
      have c0 := Below.cell_some hb c0
      have c1 := Below.cell_some hb c1
      have r0 := Below.cell_some hb r0
      have r1 := Below.cell_some hb r1
      have f0 := (hb.frozen (p := ⟨w.heap.size + 1, 0, none⟩) (by simp only; omega)).trans f0
      have f1 := (hb.frozen (p := ⟨w.heap.size + 1, 1, none⟩) (by simp only; omega)).trans f1
      have HA1 := Lib.hid (HA.out.below hb)
      clear hb
      go_wp2_with fail
      refine (HT.out _).mono ?_
      rintro e w2 ⟨rfl, hb⟩
      have HB2 := Lib.hid (HB.out.trans (hb.mono (by omega)))
      have hs2 := hb.size
      have c0 := Below.cell_some hb c0
      have c1 := Below.cell_some hb c1
      have r0 := Below.cell_some hb r0
      have r1 := Below.cell_some hb r1
      have f0 := (hb.frozen (p := ⟨w.heap.size + 1, 0, none⟩) (by simp only; omega)).trans f0
      have f1 := (hb.frozen (p := ⟨w.heap.size + 1, 1, none⟩) (by simp only; omega)).trans f1
      have HA2 := Lib.hid (HA1.out.below hb)
      clear hb
      go_wp2
      refine bodyPost_ret (v := .tuple #[.agg #[.int .i64 0, .slice none 0 0], .bool false]) (by simp [results, Try.results14, go_sem, r0, r1]) rfl ⟨none, 0, 0, ret_rod HV.out.1.symm rfl HV.out.2.2.symm, by rw [HV.out.2.1]; rfl, by rw [HV.out.2.1]; exact SlOwn.nil pairS _ _ _, ?_⟩
      exact (HB2.out.setCell (by simp) _).setCell (by simp) _
    | true =>
      rw [ht] at HT
      have hti := timeC_le ht
      obtain ⟨T, rfl⟩ := Int.eq_ofNat_of_zero_le hti.1
      have HV : Hid (caL L l T = L ∧ caA L l T = caV L l T ∧ aaOkC L l T = true) := by
        have hb : aaOkC L l T = true := by simp [aaOkC, hg, ht]
        show _ ∧ _ ∧ _; simp [caL, caA, hb]
      have HW : Hid (∀ x ∈ l, 0 ≤ x.1 ∧ x.1 ≤ L - 2 ∧ (x.2 = -1 ∨ x.2 = 1)) := fun x hx => by
        obtain ⟨k, hk, rfl⟩ := List.mem_iff_getElem.1 hx
        exact ciB_way hg (List.getElem?_eq_getElem hk)
      obtain ⟨hL0, hL1, _, hl16⟩ := ciB_len hg
      have HP : Hid (∀ Y : World, AntsAt Y A l → Calls Try.prog 44 #[.int .i64 T] Y fun e w3 => ∃ b, e = .returned (.func (.func 62) #[] #[.pointer (some ⟨b, 0, none⟩)]) ∧ (Calls Try.prog 43 #[.agg #[.int .i64 L, .slice A l.length c], .func (.func 62) #[] #[.pointer (some ⟨b, 0, none⟩)]] w3 fun e w' => ∃ A' n' c', e = .returned (.agg #[.int .i64 L, .slice A' n' c']) ∧ n' = l.length ∧ SlOwn pairS w' w3.heap.size 59 (.slice A' n' c') (srtA (l.map (mvK L (pmF T)))) ∧ Below w3.heap.size w3 w') ∧ Below Y.heap.size Y w3) := fun Y hY => by
        refine (passOn_any T Y).mono ?_
        rintro e w3 ⟨rfl, hw3⟩
        have hcp : w3.cell? ⟨Y.heap.size, 0, none⟩ = some (.int .i64 T) := by rw [hw3]; simp
        have hb : Below Y.heap.size Y w3 := by rw [hw3]; exact (Below.refl _ _).alloc (Nat.le_refl _) _
        have hs3e : w3.heap.size = Y.heap.size + 1 := by rw [hw3]; simp
        refine ⟨_, rfl, circleOf_any 62 #[.pointer (some ⟨Y.heap.size, 0, none⟩)] (pmF T) L A c l w3 (enters_of Try.func62 (by kernel_rfl) rfl) hl16 (by omega) (by omega)
          (fun x hx => by
            have h := HW.out x hx
            unfold pmF
            rcases h.2.2 with e | e <;> rw [e] <;> constructor <;> simp only <;> omega)
          (fun x hx W hW => by
            have h := HW.out x hx
            exact passM_any Y.heap.size T x W (by rw [hW.cell (p := ⟨Y.heap.size, 0, none⟩) (by simp only; omega)]; exact hcp) (by omega) (by omega) h.2.2) (hY.below hb), hb⟩
      clear hg ht
      go_enter Try.func14, Try.ntmps14
      go_wp2_with fail
      generalize hQ : World.alloc (World.alloc w _) _ = W1
      obtain rfl : W1 = W0 := by rw [hW0, ← hQ]
      clear hQ hW0
      refine (HG.out _ HA.out).mono ?_
      rintro e w1 ⟨rfl, hb⟩
      have HB := Lib.hid (HB0.out.trans (hb.mono (by omega)))
      have hs1 := hb.size
      have c0 := Below.cell_some hb c0
      have c1 := Below.cell_some hb c1
      have r0 := Below.cell_some hb r0
      have r1 := Below.cell_some hb r1
      have f0 := (hb.frozen (p := ⟨w.heap.size + 1, 0, none⟩) (by simp only; omega)).trans f0
      have f1 := (hb.frozen (p := ⟨w.heap.size + 1, 1, none⟩) (by simp only; omega)).trans f1
      have HA1 := Lib.hid (HA.out.below hb)
      clear hb
      go_wp2_with fail
      refine (HT.out _).mono ?_
      rintro e w2 ⟨rfl, hb⟩
      have HB2 := Lib.hid (HB.out.trans (hb.mono (by omega)))
      have hs2 := hb.size
      have c0 := Below.cell_some hb c0
      have c1 := Below.cell_some hb c1
      have r0 := Below.cell_some hb r0
      have r1 := Below.cell_some hb r1
      have f0 := (hb.frozen (p := ⟨w.heap.size + 1, 0, none⟩) (by simp only; omega)).trans f0
      have f1 := (hb.frozen (p := ⟨w.heap.size + 1, 1, none⟩) (by simp only; omega)).trans f1
      have HA2 := Lib.hid (HA1.out.below hb)
      clear hb
      obtain ⟨Y, hY⟩ : ∃ Y, Y = w2.drew := ⟨_, rfl⟩
      have hb : Below w2.heap.size w2 Y := by rw [hY]; exact (Below.refl _ _).drew
      have HBY := Lib.hid (HB2.out.trans (hb.mono (by omega)))
      have hsY := hb.size
      have c0Y := Below.cell_some hb c0
      have c1Y := Below.cell_some hb c1
      have r0Y := Below.cell_some hb r0
      have r1Y := Below.cell_some hb r1
      have f0Y := (hb.frozen (p := ⟨w.heap.size + 1, 0, none⟩) (by simp only; omega)).trans f0
      have f1Y := (hb.frozen (p := ⟨w.heap.size + 1, 1, none⟩) (by simp only; omega)).trans f1
      have HAY := Lib.hid (HA2.out.below hb)
      clear hb
      subst hY
      go_wp2
      go_region_held3 (fun w' => w'.cell? ⟨w.heap.size, 0, none⟩ = some (.int .i64 L) ∧ w'.cell? ⟨w.heap.size, 1, none⟩ = some (.slice A l.length c))
        (first | exact ⟨c0Y, c1Y⟩ | exact ⟨c03, c13⟩ | exact ⟨c04, c14⟩ | go_keep)
        (first
          | (go_at_call 44; refine (HP.out _ HAY.out).mono ?_; rintro e w3 ⟨b, rfl, hcf, hb⟩; have HB3 := Lib.hid (HBY.out.trans (hb.mono (by omega))); have hs3 := hb.size; have c03 := Below.cell_some hb c0Y; have c13 := Below.cell_some hb c1Y; have r03 := Below.cell_some hb r0Y; have r13 := Below.cell_some hb r1Y; have f03 := (hb.frozen (p := ⟨w.heap.size + 1, 0, none⟩) (by simp only; omega)).trans f0Y; have f13 := (hb.frozen (p := ⟨w.heap.size + 1, 1, none⟩) (by simp only; omega)).trans f1Y; have HC := Lib.hid hcf; clear hb hcf)
          | (go_at_call 43; refine HC.out.mono ?_; rintro e w4 ⟨A4, n4, c4, rfl, hn4, ho4, hb⟩; have HB4 := Lib.hid (HB3.out.trans (hb.mono (by omega))); have hs4 := hb.size; have c04 := Below.cell_some hb c03; have c14 := Below.cell_some hb c13; have r04 := Below.cell_some hb r03; have r14 := Below.cell_some hb r13; have f04 := (hb.frozen (p := ⟨w.heap.size + 1, 0, none⟩) (by simp only; omega)).trans f03; have f14 := (hb.frozen (p := ⟨w.heap.size + 1, 1, none⟩) (by simp only; omega)).trans f13; have HN4 : Hid (n4 = (caV L l T).length) := (by show _ = _; unfold caV; rw [srtA_len, List.length_map, hn4]); have HO4 : Hid (SlOwn pairS w4 w3.heap.size 59 (.slice A4 n4 c4) (caV L l T)) := ho4; clear hb hn4 ho4 HC))
      all_goals (
        go_wp2
        refine bodyPost_ret (v := .tuple #[.agg #[.int .i64 L, .slice A4 n4 c4], .bool true]) (by simp [results, Try.results14, go_sem, r04, r14]) rfl ⟨A4, n4, c4, ret_rod HV.out.1.symm rfl HV.out.2.2.symm, by rw [HV.out.2.1]; exact HN4.out, ?_, ?_⟩
        · rw [HV.out.2.1]
          exact ownsRow_base (ownsRow_setCell_below (ownsRow_setCell_below HO4.out (by simp only; omega) _) (by simp only; omega) _) (by omega)
        · exact (HB4.out.setCell (by simp) _).setCell (by simp) _)

end Go.Proofs.Ytdoikeglaolipaa
