/- The program's AntsAround: crewAfter's first ants, in memory of their own. -/
import Derived.Test.YtdoikeglaolipaaCrewE
namespace Go.Proofs.Ytdoikeglaolipaa
open Go.RowKit

theorem aaC_len (L : Int) (l : List (Int × Int)) (t : Int) : (aaC L l t).length ≤ l.length := by
  unfold aaC
  split
  · rename_i h
    simp only [aaOkC, Bool.and_eq_true] at h
    rw [runC_len (circ_of h.1)]
    exact Nat.le_refl _
  · exact Nat.zero_le _

set_option maxRecDepth 100000 in
set_option maxHeartbeats 1000000 in
theorem implAntsAround_any (L : Int) (A : Option Addr) (c : Nat) (l : List (Int × Int)) (t : Int) (w : World) (hA : AntsAt w A l) :
    Calls Try.prog 19 #[.agg #[.int .i64 L, .slice A l.length c], .int .i64 t] w fun e w' => ∃ A' n' c', e = .returned (.tuple #[.slice A' n' c', .bool (aaOkC L l t)]) ∧ n' = (aaC L l t).length ∧ SlOwn pairS w' w.heap.size 59 (.slice A' n' c') (aaC L l t) ∧ Below w.heap.size w w' := by
  obtain ⟨W0, hW0⟩ : ∃ W0, W0 = w.alloc (Obj.cells #[Value.int IntKind.i64 L, Value.slice A l.length c] 28) := ⟨_, rfl⟩
  have HB0 : Hid (Below w.heap.size w W0) := by show Below _ _ _; rw [hW0]; exact (Below.refl _ w).alloc (Nat.le_refl _) _
  have hs0 : W0.heap.size = w.heap.size + 1 := by rw [hW0]; simp
  have c0 : W0.cell? ⟨w.heap.size, 0, none⟩ = some (.int .i64 L) := by rw [hW0]; simp
  have c1 : W0.cell? ⟨w.heap.size, 1, none⟩ = some (.slice A l.length c) := by rw [hW0]; simp
  have HA := Lib.hid (hA.below HB0.out)
  clear hA
  have HG : Hid (∀ w, AntsAt w A l → Calls Try.prog 41 #[.agg #[.int .i64 L, .slice A l.length c]] w fun e w' => e = .returned (.bool (ciB L l)) ∧ Below w.heap.size w w') := fun w h => isCircle_any L A c l w h
  have HT : Hid (∀ w, Calls Try.prog 42 #[.int .i64 t] w fun e w' => e = .returned (.bool (timeC t)) ∧ Below w.heap.size w w') := fun w => isRoundTime_at t _ rfl w
  cases hg : ciB L l with
  | false =>
    have HV : Hid (aaC L l t = [] ∧ aaOkC L l t = false) := by show _ ∧ _; simp [aaC, aaOkC, hg]
    rw [hg] at HG
    clear hg
    rw [HV.out.1, HV.out.2]
    go_enter Try.func19, Try.ntmps19
    go_wp2_with fail
    generalize hQ : World.alloc w _ = W1
    obtain rfl : W1 = W0 := by rw [hW0, ← hQ]
    clear hQ hW0
    refine (HG.out _ HA.out).mono ?_
    rintro e w1 ⟨rfl, hb⟩
    have HB := Lib.hid (HB0.out.trans (hb.mono (by omega)))
    clear hb
    go_wp2
    go_ret2
    exact ⟨none, 0, 0, rfl, rfl, SlOwn.nil pairS _ _ _, HB.out⟩
  | true =>
    rw [hg] at HG
    cases ht : timeC t with
    | false =>
      have HV : Hid (aaC L l t = [] ∧ aaOkC L l t = false) := by show _ ∧ _; simp [aaC, aaOkC, ht]
      rw [ht] at HT
      clear hg ht
      rw [HV.out.1, HV.out.2]
      go_enter Try.func19, Try.ntmps19
      go_wp2_with fail
      generalize hQ : World.alloc w _ = W1
      obtain rfl : W1 = W0 := by rw [hW0, ← hQ]
      clear hQ hW0
      refine (HG.out _ HA.out).mono ?_
      rintro e w1 ⟨rfl, hb⟩
      have HB := Lib.hid (HB0.out.trans (hb.mono (by omega)))
      clear hb
      go_wp2_with fail
      refine (HT.out _).mono ?_
      rintro e w2 ⟨rfl, hb⟩
      have HB2 := Lib.hid (HB.out.trans (hb.mono HB.out.size))
      clear hb
      go_wp2
      go_ret2
      exact ⟨none, 0, 0, rfl, rfl, SlOwn.nil pairS _ _ _, HB2.out⟩
    | true =>
      have hti := timeC_le ht
      obtain ⟨T, rfl⟩ := Int.eq_ofNat_of_zero_le hti.1
      have HV : Hid (aaC L l T = (runC L l T).1 ∧ aaOkC L l T = true) := by
        show _ ∧ _
        have e3 : aaOkC L l T = true := by simp only [aaOkC, hg, ht]; rfl
        refine ⟨?_, e3⟩
        unfold aaC
        rw [if_pos e3]
        rfl
      have HRL := Lib.hid (runC_len (circ_of hg) T)
      have hl16 := (ciB_len hg).2.2.2
      have HC : Hid (∀ W, AntsAt W A l → Calls Try.prog 45 #[.agg #[.int .i64 L, .slice A l.length c], .int .i64 T] W fun e w' => e = .returned (.agg (crewV (runC L l T).1).toArray) ∧ Below W.heap.size W w') := fun W hW => crewAfter_any L A c l T W hg (by omega) hW
      rw [ht] at HT
      clear hg ht
      rw [HV.out.1, HV.out.2]
      generalize (runC L l T).1 = R at *
      have hR16 : R.length ≤ 16 := by rw [HRL.out]; exact hl16
      have HSZ : Hid ((Try.prog.info? 61).map (·.size) = some (crewV R).toArray.size) := by show _ = _; rw [List.size_toArray, crew_length R hR16]; exact crewSiz
      have HALL : Hid (((crewV R).toArray.all (·.oneCell')) = true) := by show _ = _; rw [List.all_toArray]; exact List.all_eq_true.2 (crew_one _)
      have HZL : Hid ((List.replicate 32 (Value.int .i64 0)).toArray.size = (crewV R).toArray.size) := by show _ = _; rw [List.size_toArray, List.size_toArray, crew_length R hR16]; simp
      go_enter Try.func19, Try.ntmps19
      go_wp2_with fail
      generalize hQ : World.alloc w _ = W1
      obtain rfl : W1 = W0 := by rw [hW0, ← hQ]
      clear hQ hW0
      refine (HG.out _ HA.out).mono ?_
      rintro e w1 ⟨rfl, hb⟩
      have HB := Lib.hid (HB0.out.trans (hb.mono (by omega)))
      have c0 := Below.cell_some hb c0
      have c1 := Below.cell_some hb c1
      have HA1 := Lib.hid (HA.out.below hb)
      clear hb
      go_wp2_with fail
      refine (HT.out _).mono ?_
      rintro e w2 ⟨rfl, hb⟩
      have HB2 := Lib.hid (HB.out.trans (hb.mono HB.out.size))
      have c0 := Below.cell_some hb c0
      have c1 := Below.cell_some hb c1
      have HA2 := Lib.hid (HA1.out.below hb)
      clear hb
      go_wp2_with fail
      refine (HC.out _ HA2.out).mono ?_
      rintro e w3 ⟨rfl, hb⟩
      have HB3 := Lib.hid (HB2.out.trans (hb.mono HB2.out.size))
      have c0 := Below.cell_some hb c0
      have c1 := Below.cell_some hb c1
      clear hb
      obtain ⟨X, hX⟩ : ∃ X, X = (w3.alloc (Obj.cells (List.replicate 32 (Value.int .i64 0)).toArray 61)).setRow w3.heap.size (crewV R).toArray := ⟨_, rfl⟩
      have hBX : Below w3.heap.size w3 X := by
        rw [hX]
        refine ((Below.refl _ w3).alloc (Nat.le_refl _) _).grown (row := some w3.heap.size) ⟨rfl, rfl, rfl, by simp [World.setRow], fun k _ hk => setRow_other _ _ k _ (fun e => hk (by rw [e]))⟩ (by simp) (fun g hg => by injection hg with hg; omega)
      have HRX : Hid (X.heap[w3.heap.size]? = some (.cells (crewV R).toArray 61 (0, 0))) := by show _ = _; rw [hX]; exact setRow_heap _ _ _ _ _ _ (heap_new rfl)
      have HRT : Hid ((w3.alloc (Obj.cells (List.replicate 32 (Value.int .i64 0)).toArray 61)).setRow w3.heap.size (crewV R).toArray = X) := hX.symm
      have HAX : Hid (AntsAt X (some ⟨w3.heap.size, 0, none⟩) R) := slAt_ants (crew_ants HRX.out)
      have x1 := Below.cell_some hBX c1
      have HB4 := Lib.hid (HB3.out.trans (hBX.mono HB3.out.size))
      have slk := fun w => sliceK_h w w3.heap.size l.length hl16
      have HCL : Hid (∀ W, AntsAt W (some ⟨w3.heap.size, 0, none⟩) R → Calls Try.prog 46 #[.slice (some ⟨w3.heap.size, 0, none⟩) l.length 16] W fun e w' => ∃ A' n' c', e = .returned (.slice A' n' c') ∧ n' = R.length ∧ SlOwn pairS w' W.heap.size 59 (.slice A' n' c') R ∧ Below W.heap.size W w') := fun W hW => by
        rw [← HRL.out]
        exact cloneA_any _ _ R W (by omega) hW
      have hsX := hBX.size
      clear hBX hX
      go_wp2_with (first
        | (refine wpList_store_row rfl 61 _ _ rfl w3.heap.size rfl 61 (List.replicate 32 (Value.int .i64 0)).toArray (crewV R).toArray rfl (heap_new rfl) HSZ.out HZL.out HALL.out ?_; have e0 := HRT.out; change wpList _ _ _ _ _ (World.setRow (World.alloc w3 (Obj.cells (List.replicate 32 (Value.int .i64 0)).toArray 61)) w3.heap.size (crewV R).toArray); rw [e0]; clear e0))
      refine (HCL.out _ HAX.out).mono ?_
      rintro e w5 ⟨A5, n5, k5, rfl, hn5, ho5, hb⟩
      have HB5 := Lib.hid (HB4.out.trans (hb.mono HB4.out.size))
      have HO5 := Lib.hid (SlOwn.base ho5 HB4.out.size)
      have HN5 := Lib.hid hn5
      clear hb ho5 hn5
      go_wp2
      go_ret2
      exact ⟨A5, n5, k5, rfl, HN5.out, HO5.out, HB5.out⟩
end Go.Proofs.Ytdoikeglaolipaa
