/- How far an ant has gone: the program's WayAround. -/
import Derived.Test.YtdoikeglaolipaaCrewE
namespace Go.Proofs.Ytdoikeglaolipaa
open Go.RowKit

theorem run_gone {L : Int} {l : List (Int × Int)} (h : Circ L l) : ∀ (t i : Nat) (x a : Int × Int), (runU L l t)[i]? = some x → l[i]? = some a → (runG L l t)[i]? = some (x.1 - a.1)
  | 0, i, x, a, hx, ha => by
    have hx' : l[i]? = some x := hx
    rw [ha] at hx'
    injection hx' with hx'
    subst hx'
    show (List.replicate l.length (0 : Int))[i]? = _
    rw [List.getElem?_replicate, if_pos (List.getElem?_eq_some_iff.1 ha).1]
    congr 1
    omega
  | t + 1, i, z, a, hz, ha => by
    have hw := wr_run h t
    have ht := (moved_opp h t _ hw).2
    obtain ⟨x, hx, rfl⟩ := stepU_inv ht hz
    have ih := run_gone h t i x a hx ha
    show (stepG (runC L l t).1 (runG L l t))[i]? = _
    unfold stepG
    rw [List.getElem?_zipWith, hw, List.getElem?_map, hx, ih]
    show some (x.1 - a.1 + x.2) = some _
    congr 1
    simp only
    omega
theorem way_eq {L : Int} {l : List (Int × Int)} (h : Circ L l) (hs : Asc l) (t : Nat) {i : Nat} (hi : i < l.length) {y a : Int × Int} (hy : (runC L l t).1[i]? = some y) (ha : l[i]? = some a) :
    (runG L l t).getD i 0 = (((i : Nat) : Int) + shU L t l) / (l.length : Int) * L + y.1 - a.1 := by
  obtain ⟨_, x, hx, hq⟩ := ring_told h hs t hi
  have hg := run_gone h t i x a hx ha
  rw [wr_run h t, List.getElem?_map, hx] at hy
  injection hy with hy
  rw [List.getD_eq_getElem?_getD, hg, ← hq, ← hy]
  show x.1 - a.1 = x.1 / L * L + x.1 % L - a.1
  rw [emod_floor x.1 L, Int.mul_comm L]
  omega
theorem crew_parts (R : List (Int × Int)) {k : Nat} (hk : k < R.length) : crewV R = pairS.row (R.take k) ++ ([.int .i64 (R[k]'hk).1, .int .i64 (R[k]'hk).2] ++ (pairS.row (R.drop (k + 1)) ++ List.replicate (32 - R.length * 2) (Value.int .i64 0))) := by
  unfold crewV
  have h : R = R.take k ++ (R[k]'hk :: R.drop (k + 1)) := by rw [List.getElem_cons_drop, List.take_append_drop]
  have h2 : pairS.row R = pairS.row (R.take k) ++ ([.int .i64 (R[k]'hk).1, .int .i64 (R[k]'hk).2] ++ pairS.row (R.drop (k + 1))) := by
    conv => lhs; rw [h]
    rw [pairS.row_append, Shape.row_cons]
    rfl
  rw [h2]
  simp only [List.append_assoc]
theorem crew_take (R : List (Int × Int)) {k : Nat} (hk : k < R.length) : List.take 2 (List.drop (k * 2) (crewV R)) = [.int .i64 (R[k]'hk).1, .int .i64 (R[k]'hk).2] := by
  have hl : (pairS.row (R.take k)).length = k * 2 := by
    rw [pairS.row_length, List.length_take]
    show min k R.length * 2 = _
    omega
  rw [crew_parts R hk, List.drop_append_of_le_length (by omega), List.drop_of_length_le (by omega), List.nil_append]
  rfl
theorem crew_index (R : List (Int × Int)) {k : Nat} (hk : k < R.length) (hR : R.length ≤ 16) (w : World) :
    (Instr.index 61 (.agg (crewV R).toArray) (.int .i64 k)).run Try.prog w = .ok (.agg #[.int .i64 (R[k]'hk).1, .int .i64 (R[k]'hk).2]) w := by
  have h16 : k < 16 := by omega
  have he := crew_take R hk
  simp [Instr.index, asIntOf, run_underlying Try.underlying61, part, Try.sizeOf59, Try.isAgg59, Result.andThen, h16, he]
theorem hasAntC_at (L : Int) (A : Option Addr) (n c : Nat) (ant : Int) (r : Bool) (hr : inB n ant = r) (w : World) :
    Calls Try.prog 49 #[.agg #[.int .i64 L, .slice A n c], .int .i64 ant] w fun e w' => e = .returned (.bool r) ∧ Below w.heap.size w w' := by
  subst hr
  go_enter Try.func49, Try.ntmps49
  go_wp2
  all_goals go_ret
  all_goals (refine ⟨ret_bool ?_, (Below.refl _ _).alloc (Nat.le_refl _) _⟩)
  all_goals (unfold inB; simp [*])
  all_goals omega
theorem roundsTo1_any (x L : Int) (w : World) (hx0 : -1000000 ≤ x) (hx1 : x ≤ 1000000) (hL : 1 ≤ L) (hL1 : L ≤ 1000000) :
    Calls Try.prog 50 #[.int .i64 x, .int .i64 L] w fun e w' => e = .returned (.int .i64 (x / L)) ∧ w = w' := by
  by_cases h2 : 2 ≤ L
  · exact roundsTo_any x L w hx0 hx1 h2 hL1
  · obtain rfl : L = 1 := by omega
    have HC : Hid (∀ w, Calls Try.prog 64 #[.int .i64 x, .int .i64 1] w fun e w' => e = .returned (.int .i64 0) ∧ w = w') := fun w => by
      have h := around_any x 1 w hx0 hx1 (by omega) (by omega)
      rwa [Int.emod_one] at h
    have hw1 : IntKind.i64.wrap (x - 0) = x := by rw [IntWalk.i64_in _ (by omega)]; omega
    have hw1' : IntKind.i64.wrap x = x := IntWalk.i64_in _ (by omega)
    have hw2 : x.tdiv 1 = x := Int.tdiv_one x
    rw [Int.ediv_one]
    go_enter Try.func50, Try.ntmps50
    go_wp2_with fail
    refine (HC.out _).mono ?_
    rintro e w' ⟨rfl, rfl⟩
    go_wp2
    go_ret
    exact ⟨rfl, rfl⟩

set_option maxRecDepth 100000 in
set_option maxHeartbeats 2000000 in
theorem implWayAround_any (L : Int) (A : Option Addr) (c : Nat) (l : List (Int × Int)) (ant t : Int) (w : World) (hA : AntsAt w A l) :
    Calls Try.prog 24 #[.agg #[.int .i64 L, .slice A l.length c], .int .i64 ant, .int .i64 t] w fun e w' => e = .returned (.tuple #[.int .i64 (waV L l ant t), .bool (waOk L l ant t)]) ∧ Below w.heap.size w w' := by
  obtain ⟨W0, hW0⟩ : ∃ W0, W0 = w.alloc (Obj.cells #[Value.int IntKind.i64 L, Value.slice A l.length c] 28) := ⟨_, rfl⟩
  have HB0 : Hid (Below w.heap.size w W0) := by show Below _ _ _; rw [hW0]; exact (Below.refl _ w).alloc (Nat.le_refl _) _
  have hs0 : W0.heap.size = w.heap.size + 1 := by rw [hW0]; simp
  have c0 : W0.cell? ⟨w.heap.size, 0, none⟩ = some (.int .i64 L) := by rw [hW0]; simp
  have c1 : W0.cell? ⟨w.heap.size, 1, none⟩ = some (.slice A l.length c) := by rw [hW0]; simp
  have HA := Lib.hid (hA.below HB0.out)
  clear hA
  have HG : Hid (∀ w, AntsAt w A l → Calls Try.prog 41 #[.agg #[.int .i64 L, .slice A l.length c]] w fun e w' => e = .returned (.bool (ciB L l)) ∧ Below w.heap.size w w') := fun w h => isCircle_any L A c l w h
  have HI : Hid (∀ w, Calls Try.prog 49 #[.agg #[.int .i64 L, .slice A l.length c], .int .i64 ant] w fun e w' => e = .returned (.bool (inB l.length ant)) ∧ Below w.heap.size w w') := fun w => hasAntC_at L A l.length c ant _ rfl w
  have HT : Hid (∀ w, Calls Try.prog 42 #[.int .i64 t] w fun e w' => e = .returned (.bool (timeC t)) ∧ Below w.heap.size w w') := fun w => isRoundTime_at t _ rfl w
  cases hg : ciB L l with
  | false =>
    have HV : Hid (waV L l ant t = 0 ∧ waOk L l ant t = false) := by show _ ∧ _; simp [waV, waOk, hg]
    rw [hg] at HG
    clear hg
    rw [HV.out.1, HV.out.2]
    go_enter Try.func24, Try.ntmps24
    go_wp2_with fail
    generalize hQ : World.alloc w _ = W1
    obtain rfl : W1 = W0 := by rw [hW0, ← hQ]
    clear hQ hW0
    refine (HG.out _ HA.out).mono ?_
    rintro e w1 ⟨rfl, hb⟩
    have HB := Lib.hid (HB0.out.trans (hb.mono HB0.out.size))
    clear hb
    go_wp2
    go_ret2
    exact ⟨rfl, HB.out⟩
  | true =>
    rw [hg] at HG
    cases hi : inB l.length ant with
    | false =>
      have HV : Hid (waV L l ant t = 0 ∧ waOk L l ant t = false) := by show _ ∧ _; simp [waV, waOk, hi]
      rw [hi] at HI
      clear hg hi
      rw [HV.out.1, HV.out.2]
      go_enter Try.func24, Try.ntmps24
      go_wp2_with fail
      generalize hQ : World.alloc w _ = W1
      obtain rfl : W1 = W0 := by rw [hW0, ← hQ]
      clear hQ hW0
      refine (HG.out _ HA.out).mono ?_
      rintro e w1 ⟨rfl, hb⟩
      have HB := Lib.hid (HB0.out.trans (hb.mono HB0.out.size))
      have c0 := Below.cell_some hb c0
      have c1 := Below.cell_some hb c1
      clear hb
      go_wp2_with fail
      refine (HI.out _).mono ?_
      rintro e w2 ⟨rfl, hb⟩
      have HB2 := Lib.hid (HB.out.trans (hb.mono HB.out.size))
      clear hb
      go_wp2
      go_ret2
      exact ⟨rfl, HB2.out⟩
    | true =>
      rw [hi] at HI
      have hii := hi
      simp only [inB, Bool.and_eq_true, decide_eq_true_eq] at hii
      obtain ⟨k, rfl⟩ := Int.eq_ofNat_of_zero_le hii.1
      have hkl : k < l.length := by omega
      cases ht : timeC t with
      | false =>
        have HV : Hid (waV L l k t = 0 ∧ waOk L l k t = false) := by show _ ∧ _; simp [waV, waOk, ht]
        rw [ht] at HT
        clear hg hi ht
        rw [HV.out.1, HV.out.2]
        go_enter Try.func24, Try.ntmps24
        go_wp2_with fail
        generalize hQ : World.alloc w _ = W1
        obtain rfl : W1 = W0 := by rw [hW0, ← hQ]
        clear hQ hW0
        refine (HG.out _ HA.out).mono ?_
        rintro e w1 ⟨rfl, hb⟩
        have HB := Lib.hid (HB0.out.trans (hb.mono HB0.out.size))
        have c0 := Below.cell_some hb c0
        have c1 := Below.cell_some hb c1
        clear hb
        go_wp2_with fail
        refine (HI.out _).mono ?_
        rintro e w2 ⟨rfl, hb⟩
        have HB2 := Lib.hid (HB.out.trans (hb.mono HB.out.size))
        have c0 := Below.cell_some hb c0
        have c1 := Below.cell_some hb c1
        clear hb
        go_wp2_with fail
        refine (HT.out _).mono ?_
        rintro e w3 ⟨rfl, hb⟩
        have HB3 := Lib.hid (HB2.out.trans (hb.mono HB2.out.size))
        clear hb
        go_wp2
        go_ret2
        exact ⟨rfl, HB3.out⟩
      | true =>
        have hti := timeC_le ht
        obtain ⟨T, rfl⟩ := Int.eq_ofNat_of_zero_le hti.1
        have hla : l[k]? = some (l[k]'hkl) := List.getElem?_eq_getElem hkl
        have hkR : k < (runC L l T).1.length := by rw [runC_len (circ_of hg) T]; exact hkl
        have HV : Hid (waV L l k T = (((k : Nat) : Int) + shU L T l) / (l.length : Int) * L + ((runC L l T).1[k]'hkR).1 - (l[k]'hkl).1 ∧ waOk L l k T = true) := by
          show _ ∧ _
          have e3 : waOk L l k T = true := by simp only [waOk, hg, hi, ht]; rfl
          refine ⟨?_, e3⟩
          unfold waV
          rw [if_pos e3]
          exact way_eq (circ_of hg) (ciB_asc hg) T hkl (List.getElem?_eq_getElem hkR) hla
        obtain ⟨hL0, hL1, _, hl16⟩ := ciB_len hg
        have hsb := shAll_bounds hg T (by omega) (by omega) l.length (Nat.le_refl _)
        rw [List.take_length, shAll_shU] at hsb
        have HS : Hid (∀ W, AntsAt W A l → Calls Try.prog 51 #[.agg #[.int .i64 L, .slice A l.length c], .int .i64 T] W fun e w' => e = .returned (.int .i64 (shU L T l)) ∧ Below W.heap.size W w') := fun W hW => by
          rw [← shAll_shU]; exact shiftAfter_any L A c l T W hg (by omega) (by omega) hW
        have HC : Hid (∀ W, AntsAt W A l → Calls Try.prog 45 #[.agg #[.int .i64 L, .slice A l.length c], .int .i64 T] W fun e w' => e = .returned (.agg (crewV (runC L l T).1).toArray) ∧ Below W.heap.size W w') := fun W hW => crewAfter_any L A c l T W hg (by omega) hW
        have hway := ciB_way hg hla
        have hRb : 0 ≤ ((runC L l T).1[k]'hkR).1 ∧ ((runC L l T).1[k]'hkR).1 < L := by
          have hm := (run_ok (circ_of hg) T).1.mem_iff.1 (List.getElem_mem hkR)
          obtain ⟨z, _, hz⟩ := List.mem_map.1 hm
          rw [← hz]
          exact ⟨Int.emod_nonneg _ (by omega), Int.emod_lt_of_pos _ (by omega)⟩
        have HIX := Lib.hid (fun w => crew_index (runC L l T).1 hkR (by rw [runC_len (circ_of hg) T]; exact hl16) w)
        rw [ht] at HT
        clear hg hi ht hla
        rw [HV.out.1, HV.out.2]
        generalize (runC L l T).1 = R at *
        generalize shU L T l = sh at *
        generalize R[k]'hkR = y at *
        obtain ⟨y1, y2⟩ := y
        obtain ⟨b, off, rfl, l0, hc⟩ := HA.out.at_ hkl
        obtain ⟨a0, _⟩ := hc k hkl
        rw [getD_lt' hkl] at a0
        clear hc
        generalize l[k]'hkl = x at *
        obtain ⟨x1, x2⟩ := x
        simp only at a0 hway hRb
        have hn0 : (0 : Int) < (l.length : Int) := by omega
        have HQ : Hid (∀ W, Calls Try.prog 50 #[.int .i64 ((k : Int) + sh), .int .i64 (l.length : Int)] W fun e w' => e = .returned (.int .i64 (((k : Int) + sh) / (l.length : Int))) ∧ W = w') := fun W => roundsTo1_any _ _ W (by omega) (by omega) (by omega) (by omega)
        have hqb : -1000000 ≤ ((k : Int) + sh) / (l.length : Int) ∧ ((k : Int) + sh) / (l.length : Int) ≤ 1000000 := by
          constructor
          · refine Int.le_ediv_of_mul_le hn0 ?_
            have : -1000000 * (l.length : Int) ≤ -1000000 * 1 := by omega
            omega
          · have h1 : ((k : Int) + sh) / (l.length : Int) ≤ 1000000 := by
              refine Int.ediv_le_of_le_mul hn0 ?_
              omega
            exact h1
        generalize ((k : Int) + sh) / (l.length : Int) = q at *
        have hqL : -400000000 ≤ q * L ∧ q * L ≤ 400000000 := by
          have h1 : q * L ≤ 1000000 * 400 := by
            rcases Int.le_total 0 q with h | h
            · exact Int.mul_le_mul hqb.2 hL1 (by omega) (by omega)
            · have : q * L ≤ 0 := Int.mul_nonpos_of_nonpos_of_nonneg h (by omega)
              omega
          have h2 : (-q) * L ≤ 1000000 * 400 := by
            rcases Int.le_total 0 (-q) with h | h
            · exact Int.mul_le_mul (by omega) hL1 (by omega) (by omega)
            · have : (-q) * L ≤ 0 := Int.mul_nonpos_of_nonpos_of_nonneg h (by omega)
              omega
          rw [Int.neg_mul] at h2
          omega
        have hw1 : IntKind.i64.wrap ((k : Int) + sh) = (k : Int) + sh := IntWalk.i64_in _ (by omega)
        have hw2 : IntKind.i64.wrap (q * L) = q * L := IntWalk.i64_in _ (by omega)
        have hw3 : IntKind.i64.wrap (q * L + y1) = q * L + y1 := IntWalk.i64_in _ (by omega)
        have hw4 : IntKind.i64.wrap (q * L + y1 - x1) = q * L + y1 - x1 := IntWalk.i64_in _ (by omega)
        go_enter Try.func24, Try.ntmps24
        go_wp2_with fail
        generalize hQ : World.alloc w _ = W1
        obtain rfl : W1 = W0 := by rw [hW0, ← hQ]
        clear hQ hW0
        refine (HG.out _ HA.out).mono ?_
        rintro e w1 ⟨rfl, hb⟩
        have HB := Lib.hid (HB0.out.trans (hb.mono HB0.out.size))
        have c0 := Below.cell_some hb c0
        have c1 := Below.cell_some hb c1
        have a0 := Below.cell_some hb a0
        have HA1 := Lib.hid (HA.out.below hb)
        clear hb
        go_wp2_with fail
        refine (HI.out _).mono ?_
        rintro e w2 ⟨rfl, hb⟩
        have HB2 := Lib.hid (HB.out.trans (hb.mono HB.out.size))
        have c0 := Below.cell_some hb c0
        have c1 := Below.cell_some hb c1
        have a0 := Below.cell_some hb a0
        have HA2 := Lib.hid (HA1.out.below hb)
        clear hb
        go_wp2_with fail
        refine (HT.out _).mono ?_
        rintro e w3 ⟨rfl, hb⟩
        have HB3 := Lib.hid (HB2.out.trans (hb.mono HB2.out.size))
        have c0 := Below.cell_some hb c0
        have c1 := Below.cell_some hb c1
        have a0 := Below.cell_some hb a0
        have HA3 := Lib.hid (HA2.out.below hb)
        clear hb
        have d0 : w3.drew.cell? ⟨w.heap.size, 0, none⟩ = some (.int .i64 L) := c0
        have d1 : w3.drew.cell? ⟨w.heap.size, 1, none⟩ = some (.slice (some ⟨b, off, none⟩) l.length c) := c1
        have HAD : Hid (AntsAt w3.drew (some ⟨b, off, none⟩) l) := HA3.out.below ((Below.refl _ w3).drew)
        have HBD : Hid (Below w3.heap.size w3 w3.drew) := (Below.refl _ w3).drew
        go_wp2
        go_region_held3 (fun w' => w'.cell? ⟨w.heap.size, 0, none⟩ = some (.int .i64 L) ∧ w'.cell? ⟨w.heap.size, 1, none⟩ = some (.slice (some ⟨b, off, none⟩) l.length c))
          (first | exact ⟨d0, d1⟩ | exact ⟨e0, e1⟩ | go_keep)
          (first
            | (go_at_call 51; refine (HS.out _ HAD.out).mono ?_; rintro e w4 ⟨rfl, hb⟩; have e0 := Below.cell_some hb d0; have e1 := Below.cell_some hb d1; have HBQ := Lib.hid (HBD.out.trans (hb.mono HBD.out.size)); clear hb)
            | (go_at_call 50; refine (HQ.out _).mono ?_; rintro e w5 ⟨rfl, rfl⟩))
        have a4 := Below.cell_some HBQ.out a0
        have HA4 := Lib.hid (HA3.out.below HBQ.out)
        have HB4 := Lib.hid (HB3.out.trans (HBQ.out.mono HB3.out.size))
        have g0 : w4.drew.cell? ⟨w.heap.size, 0, none⟩ = some (.int .i64 L) := e0
        have g1 : w4.drew.cell? ⟨w.heap.size, 1, none⟩ = some (.slice (some ⟨b, off, none⟩) l.length c) := e1
        have ga : w4.drew.cell? ⟨b, off + k * 2, none⟩ = some (.int .i64 x1) := a4
        have HAE : Hid (AntsAt w4.drew (some ⟨b, off, none⟩) l) := HA4.out.below ((Below.refl _ w4).drew)
        have HBE : Hid (Below w4.heap.size w4 w4.drew) := (Below.refl _ w4).drew
        have hix := HIX.out
        have hfd : ∀ w, (Instr.field 59 (.agg #[.int .i64 y1, .int .i64 y2]) 0).run Try.prog w = .ok (.int .i64 y1) w := fun w => by kernel_rfl
        clear HQ HS HG HI HT d0 d1
        go_wp2
        go_region_held3 (fun w' => w'.cell? ⟨w.heap.size, 0, none⟩ = some (.int .i64 L) ∧ w'.cell? ⟨w.heap.size, 1, none⟩ = some (.slice (some ⟨b, off, none⟩) l.length c) ∧ w'.cell? ⟨b, off + k * 2, none⟩ = some (.int .i64 x1))
          (first | exact ⟨g0, g1, ga⟩ | exact ⟨j0, j1, ja⟩ | go_keep)
          (first
            | (go_at_call 45; refine (HC.out _ HAE.out).mono ?_; rintro e w6 ⟨rfl, hb⟩; have j0 := Below.cell_some hb g0; have j1 := Below.cell_some hb g1; have ja := Below.cell_some hb ga; have HBR := Lib.hid (HBE.out.trans (hb.mono HBE.out.size)); clear hb))
        all_goals (
          go_wp2
          go_ret2
          exact ⟨rfl, HB4.out.trans (HBR.out.mono HB4.out.size)⟩)
end Go.Proofs.Ytdoikeglaolipaa
