/- BoxMeetings on both sides. -/
import Derived.Test.YthokkdipbckolaaBoxG
namespace Go.Proofs.Ythokkdipbckolaa
open Go.RowKit

def bmV (L : Int) (l : List (Int × Int)) (t : Int) : Int := if bfOk L l t then ((wtB L l l.length).map (gB L t)).sum else 0
theorem frB_in {L : Int} (hL : 2 ≤ L) (x y : Int × Int) : 0 < frB L x y ∧ frB L x y ≤ L := by
  have hr := Int.emod_nonneg (rdB L x 0 + rdB L y 0) (show 2 * L ≠ 0 by omega)
  have hr2 := Int.emod_lt_of_pos (rdB L x 0 + rdB L y 0) (show 0 < 2 * L by omega)
  unfold frB
  omega
theorem gB_in {L t f : Int} (hL : 2 ≤ L) (ht : 0 ≤ t ∧ t ≤ 2000) (hf : 0 < f ∧ f ≤ L) : 0 ≤ gB L t f ∧ gB L t f ≤ 1001 := by
  unfold gB
  constructor
  · exact Int.ediv_nonneg (by omega) (by omega)
  · have h1 : (t - f + L) / L ≤ (2000 + L) / L := Int.ediv_le_ediv (by omega) (by omega)
    have h2 : (2000 + L) / L = 2000 / L + 1 := by rw [Int.add_ediv_of_dvd_right (Int.dvd_refl L), Int.ediv_self (by omega)]
    have h3 : 2000 / L ≤ 1000 := by
      refine Int.ediv_le_of_le_mul (by omega) ?_
      omega
    omega
/-- met so far: all pairs among the first k, and the k-th with the first j -/
def sumT (L t : Int) (l : List (Int × Int)) (k j : Nat) : Int := ((wtB L l k ++ (l.take j).map (frB L (l.getD k (0, 0)))).map (gB L t)).sum
theorem sumT_zero (L t : Int) (l : List (Int × Int)) (k : Nat) : sumT L t l k 0 = ((wtB L l k).map (gB L t)).sum := by simp [sumT]
theorem sumT_all (L t : Int) (l : List (Int × Int)) (k : Nat) : sumT L t l k k = sumT L t l (k + 1) 0 := by rw [sumT_zero]; rfl
theorem sumT_succ (L t : Int) (l : List (Int × Int)) (k j : Nat) (y : Int × Int) (hy : l[j]? = some y) : sumT L t l k (j + 1) = sumT L t l k j + gB L t (frB L (l.getD k (0, 0)) y) := by
  obtain ⟨hj, rfl⟩ := List.getElem?_eq_some_iff.1 hy
  unfold sumT
  rw [List.take_succ_eq_append_getElem hj]
  simp only [List.map_append, List.sum_append, List.map_cons, List.map_nil, List.sum_cons, List.sum_nil]
  omega
theorem sum_bound (L t : Int) (hL : 2 ≤ L) (ht : 0 ≤ t ∧ t ≤ 2000) : ∀ w : List Int, (∀ f ∈ w, 0 < f ∧ f ≤ L) → 0 ≤ (w.map (gB L t)).sum ∧ (w.map (gB L t)).sum ≤ 1001 * w.length
  | [], _ => by simp
  | f :: w, h => by
    have ih := sum_bound L t hL ht w (fun g hg => h g (List.mem_cons_of_mem _ hg))
    have hf := gB_in hL ht (h f List.mem_cons_self)
    rw [List.map_cons, List.sum_cons, List.length_cons]
    omega
theorem wtB_mem {L : Int} (hL : 2 ≤ L) (l : List (Int × Int)) : ∀ k, ∀ f ∈ wtB L l k, 0 < f ∧ f ≤ L
  | 0, f, hf => by cases hf
  | k + 1, f, hf => by
    rcases List.mem_append.1 hf with hf | hf
    · exact wtB_mem hL l k f hf
    · obtain ⟨x, _, rfl⟩ := List.mem_map.1 hf
      exact frB_in hL _ _
theorem wtB_len (L : Int) (l : List (Int × Int)) (hl : l.length ≤ 16) : ∀ k, (wtB L l k).length ≤ 16 * k
  | 0 => Nat.le_refl _
  | k + 1 => by
    have ih := wtB_len L l hl k
    show (wtB L l k ++ (l.take k).map _).length ≤ _
    rw [List.length_append, List.length_map, List.length_take]
    omega
theorem sumT_bound {L t : Int} (hL : 2 ≤ L) (ht : 0 ≤ t ∧ t ≤ 2000) {l : List (Int × Int)} (hl : l.length ≤ 16) (k j : Nat) (hk : k ≤ 16) : 0 ≤ sumT L t l k j ∧ sumT L t l k j ≤ 300000 := by
  have h1 := sum_bound L t hL ht (wtB L l k ++ (l.take j).map (frB L (l.getD k (0, 0)))) (by
    intro f hf
    rcases List.mem_append.1 hf with hf | hf
    · exact wtB_mem hL l k f hf
    · obtain ⟨x, _, rfl⟩ := List.mem_map.1 hf
      exact frB_in hL _ _)
  have h2 := wtB_len L l hl k
  have h3 : (wtB L l k ++ (l.take j).map (frB L (l.getD k (0, 0)))).length ≤ 16 * k + 16 := by
    rw [List.length_append, List.length_map, List.length_take]
    omega
  unfold sumT
  omega
theorem ret_ib2 {a b : Int} {x y : Bool} (h : a = b) (h3 : x = y) : Ending.returned (.tuple #[.int .i64 a, .bool x]) = .returned (.tuple #[.int .i64 b, .bool y]) := by rw [h, h3]

set_option maxHeartbeats 1000000 in
theorem specBoxMeetings_any (L : Int) (A : Option Addr) (c : Nat) (l : List (Int × Int)) (t : Int) (w : World) (hA : AntsAt w A l) :
    Calls Try.prog 25 #[.agg #[.int .i64 L, .slice A l.length c], .int .i64 t] w fun e w' => e = .returned (.tuple #[.int .i64 (bmV L l t), .bool (bfOk L l t)]) ∧ Below w.heap.size w w' := by
  have HA := Lib.hid (hA.alloc (Obj.cells #[Value.int IntKind.i64 L, Value.slice A l.length c] 29))
  clear hA
  cases hg : bfOk L l t with
  | false =>
    have HX : Hid (bmV L l t = 0) := by show _ = _; unfold bmV; rw [hg]; rfl
    have HG : Hid (∀ w, AntsAt w A l → Calls Try.prog 45 #[.agg #[.int .i64 L, .slice A l.length c], .int .i64 t] w fun e w' => e = .returned (.bool false) ∧ Below w.heap.size w w') := fun w h => waAsked_at L A c l t false hg w h
    clear hg
    go_enter Try.func25, Try.ntmps25
    go_wp2_with fail
    refine (HG.out _ HA.out).mono ?_
    rintro e w1 ⟨rfl, hb⟩
    go_wp2
    go_ret2
    exact ⟨ret_ib2 HX.out.symm rfl, ((Below.refl _ _).alloc (Nat.le_refl _) _).trans (hb.mono (by simp))⟩
  | true =>
    have HX : Hid (bmV L l t = ((wtB L l l.length).map (gB L t)).sum) := by show _ = _; unfold bmV; rw [hg]; rfl
    have HG : Hid (∀ w, AntsAt w A l → Calls Try.prog 45 #[.agg #[.int .i64 L, .slice A l.length c], .int .i64 t] w fun e w' => e = .returned (.bool true) ∧ Below w.heap.size w w') := fun w h => waAsked_at L A c l t true hg w h
    have hgt : boxB L l = true ∧ timeB t = true := by unfold bfOk at hg; rwa [Bool.and_eq_true] at hg
    have HF : Hid (∀ w, AntsAt w A l → Calls Try.prog 46 #[.agg #[.int .i64 L, .slice A l.length c], .int .i64 t] w fun e w' => ∃ b, e = .returned (.pointer (some ⟨b, 0, none⟩)) ∧ w'.cell? ⟨b, 5, none⟩ = some (.int .i64 ((wtB L l l.length).map (gB L t)).sum) ∧ Below w.heap.size w w') := fun w h => by
      refine (waFor_r L A c l t w hgt.1 (timeB_le hgt.2) h).mono ?_
      rintro e w' ⟨b, ab, ca, he, _, h2, _, _, h5⟩
      exact ⟨b, he, h2, h5⟩
    clear hg hgt
    generalize ((wtB L l l.length).map (gB L t)).sum = S at *
    go_enter Try.func25, Try.ntmps25
    go_wp2_with fail
    refine (HG.out _ HA.out).mono ?_
    rintro e w1 ⟨rfl, hb⟩
    have c0 : w1.cell? ⟨w.heap.size, 0, none⟩ = some (.int .i64 L) := by rw [hb.cell (p := ⟨w.heap.size, 0, none⟩) (by simp)]; simp [go_sem]
    have c1 : w1.cell? ⟨w.heap.size, 1, none⟩ = some (.slice A l.length c) := by rw [hb.cell (p := ⟨w.heap.size, 1, none⟩) (by simp)]; simp [go_sem]
    have HA1 := Lib.hid (HA.out.below hb)
    have HB := Lib.hid (((Below.refl _ w).alloc (Nat.le_refl _) _).trans (hb.mono (by simp)))
    clear hb
    go_wp2_with fail
    refine (HF.out _ HA1.out).mono ?_
    rintro e w2 ⟨b4, rfl, hc5, hb⟩
    have HB := Lib.hid (HB.out.trans (hb.mono HB.out.size))
    clear hb c0 c1
    go_wp2
    go_ret2
    exact ⟨ret_ib2 HX.out.symm rfl, HB.out⟩

set_option maxRecDepth 100000 in
set_option maxHeartbeats 4000000 in
theorem implBoxMeetings_any (L : Int) (A : Option Addr) (c : Nat) (l : List (Int × Int)) (t : Int) (w : World) (hA : AntsAt w A l) :
    Calls Try.prog 26 #[.agg #[.int .i64 L, .slice A l.length c], .int .i64 t] w fun e w' => e = .returned (.tuple #[.int .i64 (bmV L l t), .bool (bfOk L l t)]) ∧ Below w.heap.size w w' := by
  have HA := Lib.hid (hA.alloc (Obj.cells #[Value.int IntKind.i64 L, Value.slice A l.length c] 29))
  clear hA
  cases hg : boxB L l with
  | false =>
    have HO : Hid (bfOk L l t = false) := by show _ = _; unfold bfOk; rw [hg]; rfl
    have HX : Hid (bmV L l t = 0) := by show _ = _; unfold bmV; rw [HO.out]; rfl
    have HG : Hid (∀ w, AntsAt w A l → Calls Try.prog 15 #[.agg #[.int .i64 L, .slice A l.length c]] w fun e w' => e = .returned (.bool false) ∧ Below w.heap.size w w') := fun w h => by rw [← hg]; exact isBox_any L A c l w h
    clear hg
    go_enter Try.func26, Try.ntmps26
    go_wp2_with fail
    refine (HG.out _ HA.out).mono ?_
    rintro e w1 ⟨rfl, hb⟩
    go_wp2
    go_ret2
    exact ⟨ret_ib2 HX.out.symm HO.out.symm, ((Below.refl _ _).alloc (Nat.le_refl _) _).trans (hb.mono (by simp))⟩
  | true =>
    have HG : Hid (∀ w, AntsAt w A l → Calls Try.prog 15 #[.agg #[.int .i64 L, .slice A l.length c]] w fun e w' => e = .returned (.bool true) ∧ Below w.heap.size w w') := fun w h => by rw [← hg]; exact isBox_any L A c l w h
    cases ht : timeB t with
    | false =>
      have HO : Hid (bfOk L l t = false) := by show _ = _; unfold bfOk; rw [hg, ht]; rfl
      have HX : Hid (bmV L l t = 0) := by show _ = _; unfold bmV; rw [HO.out]; rfl
      have HT : Hid (∀ w, Calls Try.prog 47 #[.int .i64 t] w fun e w' => e = .returned (.bool false) ∧ Below w.heap.size w w') := fun w => isRodTime_at t false ht w
      clear hg ht
      go_enter Try.func26, Try.ntmps26
      go_wp2_with fail
      refine (HG.out _ HA.out).mono ?_
      rintro e w1 ⟨rfl, hb⟩
      have HB := Lib.hid (((Below.refl _ w).alloc (Nat.le_refl _) _).trans (hb.mono (by simp)))
      clear hb
      go_wp2_with fail
      refine (HT.out _).mono ?_
      rintro e w2 ⟨rfl, hb⟩
      go_wp2
      go_ret2
      exact ⟨ret_ib2 HX.out.symm HO.out.symm, HB.out.trans (hb.mono HB.out.size)⟩
    | true =>
      have HO : Hid (bfOk L l t = true) := by show _ = _; unfold bfOk; rw [hg, ht]; rfl
      have HX : Hid (bmV L l t = sumT L t l l.length 0) := by show _ = _; unfold bmV; rw [HO.out, sumT_zero]; rfl
      have HT : Hid (∀ w, Calls Try.prog 47 #[.int .i64 t] w fun e w' => e = .returned (.bool true) ∧ Below w.heap.size w w') := fun w => isRodTime_at t true ht w
      have hl := boxB_len hg
      have htl := timeB_le ht
      have HGG := Lib.hid (boxB_good hg)
      have HGO : Hid (∀ w, AntsAt w A l → Calls Try.prog 42 #[.agg #[.int .i64 L, .slice A l.length c]] w fun e w' => ∃ A' c', e = .returned (.slice A' l.length c') ∧ SlOwn tripS w' w.heap.size 55 (.slice A' l.length c') (gsOf L l) ∧ Below w.heap.size w w') := fun w h => ghostsOf_any L A c l w (by omega) h
      have HSB : Hid (∀ k j, k ≤ 16 → 0 ≤ sumT L t l k j ∧ sumT L t l k j ≤ 300000) := fun k j hk => sumT_bound hl.1 htl hl.2.2.2 k j hk
      clear hg ht
      go_enter Try.func26, Try.ntmps26
      go_wp2_with fail
      refine (HG.out _ HA.out).mono ?_
      rintro e w1 ⟨rfl, hb⟩
      have c0 : w1.cell? ⟨w.heap.size, 0, none⟩ = some (.int .i64 L) := by rw [hb.cell (p := ⟨w.heap.size, 0, none⟩) (by simp)]; simp [go_sem]
      have c1 : w1.cell? ⟨w.heap.size, 1, none⟩ = some (.slice A l.length c) := by rw [hb.cell (p := ⟨w.heap.size, 1, none⟩) (by simp)]; simp [go_sem]
      have HA1 := Lib.hid (HA.out.below hb)
      have HB := Lib.hid (((Below.refl _ w).alloc (Nat.le_refl _) _).trans (hb.mono (by simp)))
      clear hb
      go_wp2_with fail
      refine (HT.out _).mono ?_
      rintro e w2 ⟨rfl, hb⟩
      have c0 := Below.cell_some hb c0
      have c1 := Below.cell_some hb c1
      have HA2 := Lib.hid (HA1.out.below hb)
      have HB := Lib.hid (HB.out.trans (hb.mono HB.out.size))
      clear hb
      go_wp2_with fail
      refine (HGO.out _ HA2.out).mono ?_
      rintro e w3 ⟨A3, c3, rfl, ho, hb⟩
      have c0 := Below.cell_some hb c0
      have HC0 := Lib.hid c0
      have HB := Lib.hid (HB.out.trans (hb.mono HB.out.size))
      have HO3 := Lib.hid ho.sl
      have hcp := own_cap ho
      clear hb ho c1 c0
      go_wp2
      go_loopw [7, 25] (fun v i wr => ∃ k : Nat, k ≤ l.length ∧ i = .int .i64 k ∧ v = .int .i64 (sumT L t l k 0) ∧ Below w3.heap.size w3 wr)
        (fun _ i _ => l.length - (intOf i).toNat)
      case atStart => exact ⟨0, Nat.zero_le _, rfl, rfl, Below.refl _ _⟩
      case round =>
        obtain ⟨k, hk, rfl, rfl, hbr⟩ := hrel
        obtain ⟨W1, rfl⟩ : ∃ W, W = wr := ⟨_, rfl⟩
        have HBR := Lib.hid hbr
        have HOr := Lib.hid (HO3.out.below hbr)
        have c0 := Below.cell_some hbr HC0.out
        clear hbr
        by_cases hlt : k < l.length
        · obtain ⟨b, off, rfl, l0, hc⟩ := HOr.out.trip_at (show k < (gsOf L l).length by simpa [gsOf] using hlt)
          have hx : l[k]? = some (l.getD k (0, 0)) := by rw [List.getD_eq_getElem?_getD, List.getElem?_eq_getElem hlt]; rfl
          have hgx : (gsOf L l)[k]? = some ((l.getD k (0, 0)).1, (l.getD k (0, 0)).2, L) := by unfold gsOf; rw [List.getElem?_map, hx]; rfl
          obtain ⟨a0, a1, a2⟩ := hc k _ hgx
          have hq := good_ant HGG.out hx
          have HSA := Lib.hid (sumT_all L t l k)
          have HSS := Lib.hid (sumT_succ L t l k)
          have HRO : Hid (∀ w, Calls Try.prog 54 #[.agg #[.int .i64 (l.getD k (0, 0)).1, .int .i64 (l.getD k (0, 0)).2, .int .i64 L], .int .i64 0] w fun e w' => e = .returned (.int .i64 (rdB L (l.getD k (0, 0)) 0)) ∧ Below w.heap.size w w') := fun w => onRound_b L _ 0 w (by omega) hq.2.2.2 ⟨hl.1, hl.2.1⟩ (by omega)
          have hr0 := rdB_in hl.1 (l.getD k (0, 0)) 0
          clear hc hx hgx
          generalize l.getD k (0, 0) = x at *
          obtain ⟨x1, x2⟩ := x
          simp only at a0 a1 a2 hq HRO
          have hkc : (k : Int) ≤ (c3 : Int) := by omega
          have hk0 : (0 : Int) ≤ (k : Int) := by omega
          have hkl : (k : Int) < (l.length : Int) := by omega
          have HB4 := Lib.hid ((Below.refl W1.heap.size W1).alloc (Nat.le_refl _) (Obj.cells #[Value.int IntKind.i64 x1, Value.int IntKind.i64 x2, Value.int IntKind.i64 L] 55))
          have e0 : (W1.alloc (Obj.cells #[Value.int IntKind.i64 x1, Value.int IntKind.i64 x2, Value.int IntKind.i64 L] 55)).cell? ⟨W1.heap.size, 0, none⟩ = some (.int .i64 x1) := by simp
          have e1 : (W1.alloc (Obj.cells #[Value.int IntKind.i64 x1, Value.int IntKind.i64 x2, Value.int IntKind.i64 L] 55)).cell? ⟨W1.heap.size, 1, none⟩ = some (.int .i64 x2) := by simp
          have e2 : (W1.alloc (Obj.cells #[Value.int IntKind.i64 x1, Value.int IntKind.i64 x2, Value.int IntKind.i64 L] 55)).cell? ⟨W1.heap.size, 2, none⟩ = some (.int .i64 L) := by simp
          have c0 := alloc_some c0 (Obj.cells #[Value.int IntKind.i64 x1, Value.int IntKind.i64 x2, Value.int IntKind.i64 L] 55)
          go_wp2
          generalize W1.alloc (Obj.cells #[Value.int IntKind.i64 x1, Value.int IntKind.i64 x2, Value.int IntKind.i64 L] 55) = W4 at *
          have HE : Hid (W4.cell? ⟨W1.heap.size, 0, none⟩ = some (.int .i64 x1) ∧ W4.cell? ⟨W1.heap.size, 1, none⟩ = some (.int .i64 x2) ∧ W4.cell? ⟨W1.heap.size, 2, none⟩ = some (.int .i64 L) ∧ W4.cell? ⟨w.heap.size, 0, none⟩ = some (.int .i64 L)) := ⟨e0, e1, e2, c0⟩
          have HO4 := Lib.hid (HOr.out.below HB4.out)
          clear e0 e1 e2 c0 a0 a1 a2
          go_loopw [7, 34] (fun v i wq => ∃ j : Nat, j ≤ k ∧ i = .int .i64 j ∧ v = .int .i64 (sumT L t l k j) ∧ Below W4.heap.size W4 wq)
            (fun _ i _ => k - (intOf i).toNat)
          case atStart => exact ⟨0, Nat.zero_le _, rfl, rfl, Below.refl _ _⟩
          case round =>
            obtain ⟨j, hj, rfl, rfl, hbq⟩ := hrel
            obtain ⟨W5, rfl⟩ : ∃ W, W = wr := ⟨_, rfl⟩
            have HBQ := Lib.hid hbq
            have HO5 := Lib.hid (HO4.out.below hbq)
            clear hbq
            by_cases hjl : j < k
            · obtain ⟨b2, off2, hbb, l2, hc⟩ := HO5.out.trip_at (show j < (gsOf L l).length by simp [gsOf]; omega)
              injection hbb with hbb
              injection hbb with hb1 hb2
              subst hb1
              subst hb2
              have hy : l[j]? = some (l.getD j (0, 0)) := by rw [List.getD_eq_getElem?_getD, List.getElem?_eq_getElem (by omega)]; rfl
              have hgy : (gsOf L l)[j]? = some ((l.getD j (0, 0)).1, (l.getD j (0, 0)).2, L) := by unfold gsOf; rw [List.getElem?_map, hy]; rfl
              obtain ⟨a0, a1, a2⟩ := hc j _ hgy
              have hqy := good_ant HGG.out hy
              have HST := Lib.hid (HSS.out j _ hy)
              have HRY : Hid (∀ w, Calls Try.prog 54 #[.agg #[.int .i64 (l.getD j (0, 0)).1, .int .i64 (l.getD j (0, 0)).2, .int .i64 L], .int .i64 0] w fun e w' => e = .returned (.int .i64 (rdB L (l.getD j (0, 0)) 0)) ∧ Below w.heap.size w w') := fun w => onRound_b L _ 0 w (by omega) hqy.2.2.2 ⟨hl.1, hl.2.1⟩ (by omega)
              have hry0 := rdB_in hl.1 (l.getD j (0, 0)) 0
              have HFR : Hid (frB L (x1, x2) (l.getD j (0, 0)) = L - ((rdB L (x1, x2) 0 + rdB L (l.getD j (0, 0)) 0) % (2 * L)) / 2) := rfl
              have hfi := frB_in hl.1 (x1, x2) (l.getD j (0, 0))
              have hsb := HSB.out k j (by omega)
              have hsb2 := HSB.out k (j + 1) (by omega)
              clear hc hy hgy
              generalize l.getD j (0, 0) = y at *
              obtain ⟨y1, y2⟩ := y
              simp only at a0 a1 a2 HRY
              clear hqy
              generalize rdB L (y1, y2) 0 = ry at *
              generalize rdB L (x1, x2) 0 = rx at *
              have hm0 := Int.emod_nonneg (rx + ry) (show 2 * L ≠ 0 by omega)
              have hm1 := Int.emod_lt_of_pos (rx + ry) (show 0 < 2 * L by omega)
              have HAR : Hid (∀ w, Calls Try.prog 53 #[.int .i64 (rx + ry), .int .i64 (2 * L)] w fun e w' => e = .returned (.int .i64 ((rx + ry) % (2 * L))) ∧ w = w') := fun w => around_any _ _ w (by omega) (by omega) (by omega) (by omega)
              generalize (rx + ry) % (2 * L) = m at *
              obtain ⟨f, hf⟩ : ∃ f, f = frB L (x1, x2) (y1, y2) := ⟨_, rfl⟩
              have hfm : L - m / 2 = f := by rw [hf, HFR.out]
              rw [← hf] at hfi HST
              have HFF := Lib.hid hf
              clear hf
              have hw1 : IntKind.i64.wrap (rx + ry) = rx + ry := IntWalk.i64_in _ (by omega)
              have hw2 : IntKind.i64.wrap (2 * L) = 2 * L := IntWalk.i64_in _ (by omega)
              have htd : m.tdiv 2 = m / 2 := Int.tdiv_eq_ediv_of_nonneg hm0
              have hw3 : IntKind.i64.wrap (m.tdiv 2) = m / 2 := by rw [htd]; exact IntWalk.i64_in _ (by omega)
              have hw4 : IntKind.i64.wrap (L - m / 2) = f := by rw [hfm]; exact IntWalk.i64_in _ (by omega)
              have hw5 : IntKind.i64.wrap (t - f) = t - f := IntWalk.i64_in _ (by omega)
              have hw6 : IntKind.i64.wrap (t - f + L) = t - f + L := IntWalk.i64_in _ (by omega)
              have HGB : Hid (gB L t f = (t - f + L) / L) := rfl
              have htq : (t - f + L).tdiv L = gB L t f := by rw [HGB.out]; exact Int.tdiv_eq_ediv_of_nonneg (by omega)
              have hgi := gB_in hl.1 htl hfi
              have hw7 : IntKind.i64.wrap ((t - f + L).tdiv L) = gB L t f := by rw [htq]; exact IntWalk.i64_in _ (by omega)
              have hw8 : IntKind.i64.wrap (sumT L t l k j + gB L t f) = sumT L t l k (j + 1) := by rw [← HST.out]; exact IntWalk.i64_in _ (by omega)
              have hL0 : ¬ L = 0 := by omega
              have HB6 := Lib.hid (HBQ.out.alloc HBQ.out.size (Obj.cells #[Value.int IntKind.i64 y1, Value.int IntKind.i64 y2, Value.int IntKind.i64 L] 55))
              have hjn : (j : Int) < (k : Int) := by omega
              have hjc : (j : Int) < (c3 : Int) := by omega
              have q0 : (W5.alloc (Obj.cells #[Value.int IntKind.i64 y1, Value.int IntKind.i64 y2, Value.int IntKind.i64 L] 55)).cell? ⟨W5.heap.size, 0, none⟩ = some (.int .i64 y1) := by simp
              have q1 : (W5.alloc (Obj.cells #[Value.int IntKind.i64 y1, Value.int IntKind.i64 y2, Value.int IntKind.i64 L] 55)).cell? ⟨W5.heap.size, 1, none⟩ = some (.int .i64 y2) := by simp
              have q2 : (W5.alloc (Obj.cells #[Value.int IntKind.i64 y1, Value.int IntKind.i64 y2, Value.int IntKind.i64 L] 55)).cell? ⟨W5.heap.size, 2, none⟩ = some (.int .i64 L) := by simp
              have hbb := HB6.out
              have e0 := Below.cell_some hbb HE.out.1
              have e1 := Below.cell_some hbb HE.out.2.1
              have e2 := Below.cell_some hbb HE.out.2.2.1
              have c0 := Below.cell_some hbb HE.out.2.2.2
              clear hbb
              go_wp2
              clear a0 a1 a2
              generalize W5.alloc (Obj.cells #[Value.int IntKind.i64 y1, Value.int IntKind.i64 y2, Value.int IntKind.i64 L] 55) = W6 at *
              have g0 := Ext.cell q0
              have g1 := Ext.cell q1
              have g2 := Ext.cell q2
              have g3 := Ext.cell e0
              have g4 := Ext.cell e1
              have g5 := Ext.cell e2
              have g6 := Ext.cell c0
              have HRX : Hid (∀ z : Ext W6, Calls Try.prog 54 #[.agg #[.int .i64 x1, .int .i64 x2, .int .i64 L], .int .i64 0] z.w fun e w' => e = .returned (.int .i64 rx) ∧ Below z.w.heap.size z.w w') := fun z => HRO.out z.w
              have HRZ : Hid (∀ z : Ext W6, Calls Try.prog 54 #[.agg #[.int .i64 y1, .int .i64 y2, .int .i64 L], .int .i64 0] z.w fun e w' => e = .returned (.int .i64 ry) ∧ Below z.w.heap.size z.w w') := fun z => HRY.out z.w
              have HRA : Hid (∀ z : Ext W6, Calls Try.prog 53 #[.int .i64 (rx + ry), .int .i64 (2 * L)] z.w fun e w' => e = .returned (.int .i64 m) ∧ Below z.w.heap.size z.w w') := fun z => by
                refine (HAR.out z.w).mono ?_
                rintro e w' ⟨rfl, rfl⟩
                exact ⟨rfl, Below.refl _ _⟩
              clear q0 q1 q2 e0 e1 e2 c0
              refine wp_region_ext (by kernel_rfl) (by kernel_rfl) ?_
              repeat (first | go_big_quiet_skip | (go_big_quiet_want; go_big_quiet_op; first | go_big_quiet_on | (apply Exists.intro; refine ⟨fun _ => ?_, ?_⟩; (first | (go_at_call 53; exact Ext.call (HRA.out _)) | (go_at_call 54; with_reducible exact Ext.call (HRX.out _)) | (go_at_call 54; with_reducible exact Ext.call (HRZ.out _))); go_big_quiet_on)))
              refine wpQuiet_nil ?_
              rintro _ ⟨z, rfl⟩
              have c0 := g6 z
              clear g0 g1 g2 g3 g4 g5 g6
              go_wp2
              go_roundw
              case rel => exact ⟨j + 1, by omega, by go_num, rfl, HB6.out.trans (z.h.mono HB6.out.size)⟩
              case measure => simp [intOf]; omega
            · have hje : j = k := by omega
              subst hje
              go_wp2
              go_roundw
              case rel => exact ⟨j + 1, by omega, by go_num, by rw [HSA.out], HBR.out.trans ((HB4.out.trans (HBQ.out.mono HB4.out.size)).mono HBR.out.size)⟩
              case measure => simp [intOf]; omega
        · obtain rfl : k = l.length := by omega
          go_wp2
          go_ret2
          exact ⟨ret_ib2 HX.out.symm HO.out.symm, HB.out.trans (HBR.out.mono HB.out.size)⟩
end Go.Proofs.Ythokkdipbckolaa
