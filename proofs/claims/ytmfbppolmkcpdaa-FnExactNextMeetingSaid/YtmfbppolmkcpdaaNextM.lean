/- The next meeting around a circle, on both sides. -/
import Derived.Test.YtmfbppolmkcpdaaAroundM
import Derived.Lib.Slices
namespace Go.Proofs.Ytmfbppolmkcpdaa
open Go.RowKit

set_option maxHeartbeats 1000000 in
theorem min_any (b off n c : Nat) (zs : List Int) (w : World) (hn : 0 < n) (hz : n = zs.length) (hbig : n ≤ 1000000) (hc : ∀ (j : Nat) (x : Int), zs[j]? = some x → w.cell? ⟨b, off + j, none⟩ = some (.int .i64 x)) :
    Calls Try.prog 24 #[.slice (some ⟨b, off, none⟩) n c] w fun e w' => e = .returned (.int .i64 (Lib.minOf zs)) ∧ Below w.heap.size w w' := by
  have h0 : w.cell? ⟨b, off, none⟩ = some (.int .i64 (zs.getD 0 0)) := by
    have := hc 0 (zs.getD 0 0) (by rw [List.getD_eq_getElem?_getD, List.getElem?_eq_getElem (by omega)]; rfl)
    simpa using this
  go_enter Try.func24, Try.ntmps24
  go_wp2
  go_loop [3, 4] (fun m i => ∃ k : Nat, 0 < k ∧ k ≤ n ∧ i = .int .i64 k ∧ m = .int .i64 (Lib.minOf (zs.take k))) (fun _ i => n - (intOf i).toNat)
  case atStart => exact ⟨1, Nat.one_pos, hn, rfl, by rw [Lib.minOf_one]; simp [List.getD]⟩
  case round =>
    obtain ⟨k, hk0, hk, rfl, rfl⟩ := hrel
    by_cases hlt : k < n
    · have a0 : w.cell? ⟨b, off + k, none⟩ = some (.int .i64 (zs.getD k 0)) := hc k _ (by rw [List.getD_eq_getElem?_getD, List.getElem?_eq_getElem (by omega)]; rfl)
      have HST := Lib.hid (Lib.minOf_step zs k hk0 (by omega))
      go_wp2
      go_round
      case rel => exact ⟨k + 1, Nat.succ_pos k, by omega, by go_num, by rw [HST.out, List.getD_eq_getElem?_getD, List.getElem?_eq_getElem (by omega)]; simp; split <;> omega⟩
      case measure => simp [intOf]; omega
    · have hke : k = n := by omega
      subst hke
      have HE : Hid (zs.take k = zs) := by show _ = _; rw [hz, List.take_length]
      go_wp2
      go_ret
      exact ⟨ret_int (by first | rfl | rw [HE.out]), Below.refl _ _⟩

theorem foldl_min_le : ∀ (q : List Int) (m : Int), q.foldl min m ≤ m ∧ (∀ a ∈ q, q.foldl min m ≤ a) ∧ (q.foldl min m = m ∨ q.foldl min m ∈ q)
  | [], m => by
    refine ⟨Int.le_refl _, ?_, Or.inl rfl⟩
    intro a ha
    simp at ha
  | x :: q, m => by
    obtain ⟨h1, h2, h3⟩ := foldl_min_le q (min m x)
    refine ⟨?_, fun a ha => ?_, ?_⟩
    · show q.foldl min (min m x) ≤ m
      omega
    · show q.foldl min (min m x) ≤ a
      rcases List.mem_cons.1 ha with rfl | ha
      · omega
      · exact h2 a ha
    · show q.foldl min (min m x) = m ∨ q.foldl min (min m x) ∈ x :: q
      rcases h3 with h3 | h3
      · rw [h3]
        by_cases h : m ≤ x
        · exact .inl (by omega)
        · exact .inr (by rw [show min m x = x by omega]; exact List.mem_cons_self)
      · exact .inr (List.mem_cons_of_mem _ h3)
theorem minOf_ok {q : List Int} (h : q ≠ []) : Lib.minOf q ∈ q ∧ ∀ a ∈ q, Lib.minOf q ≤ a := by
  cases q with
  | nil => exact absurd rfl h
  | cons x q =>
    have h0 := foldl_min_le (x :: q) x
    unfold Lib.minOf
    refine ⟨?_, h0.2.1⟩
    rcases h0.2.2 with e | e
    · show (x :: q).foldl min x ∈ _
      rw [e]; exact List.mem_cons_self
    · exact e
theorem fC_none {L t a : Int} (_hL : 2 ≤ L) (ht : 0 ≤ t) (h1 : a ≤ L) (h : 2 * t < a) : fC L t a = 0 := by
  unfold fC
  exact Int.ediv_eq_zero_of_lt (by omega) (by omega)
theorem fC_some {L t a : Int} (hL : 2 ≤ L) (h : a ≤ 2 * t) : 1 ≤ fC L t a := by
  unfold fC
  exact Int.le_ediv_of_mul_le (by omega) (by omega)
theorem sum_zero {L t : Int} : ∀ q : List Int, (∀ a ∈ q, fC L t a = 0) → (q.map (fC L t)).sum = 0
  | [], _ => rfl
  | a :: q, h => by
    rw [List.map_cons, List.sum_cons, h a List.mem_cons_self, sum_zero q fun b hb => h b (List.mem_cons_of_mem _ hb)]
    rfl
theorem sum_pos {L t : Int} : ∀ q : List Int, (∀ a ∈ q, 0 ≤ fC L t a) → ∀ a ∈ q, fC L t a ≤ (q.map (fC L t)).sum
  | [], _, a, ha => by cases ha
  | b :: q, h, a, ha => by
    have h0 : ∀ p : List Int, (∀ a ∈ p, 0 ≤ fC L t a) → 0 ≤ (p.map (fC L t)).sum := by
      intro p
      induction p with
      | nil => intro _; exact Int.le_refl _
      | cons y p ih =>
        intro hp
        have h1 := hp y List.mem_cons_self
        have h2 := ih fun z hz => hp z (List.mem_cons_of_mem _ hz)
        rw [List.map_cons, List.sum_cons]
        omega
    have hb := h b List.mem_cons_self
    have hq := fun z hz => h z (List.mem_cons_of_mem _ hz)
    have h3 := h0 q hq
    rw [List.map_cons, List.sum_cons]
    rcases List.mem_cons.1 ha with rfl | ha
    · omega
    · have := sum_pos q hq a ha
      omega

def nmOk (L : Int) (l : List (Int × Int)) : Bool := ciB L l && !(wtP L l).isEmpty
def nmV (L : Int) (l : List (Int × Int)) : Int := if nmOk L l then Lib.minOf (wtP L l) / 2 else 0
theorem next_ok {L : Int} {l : List (Int × Int)} (h : ciB L l = true) (hne : wtP L l ≠ []) : ∃ M : Nat, Lib.minOf (wtP L l) / 2 = (M : Int) ∧ M ≤ 200 ∧ (∀ t, t < M → (runC L l t).2 = 0) ∧ (runC L l M).2 ≠ 0 := by
  have hl := ciB_len h
  have hc := circ_of h
  obtain ⟨h1, h2⟩ := minOf_ok hne
  have hw := wtP_ok hc
  have h3 := hw _ h1
  obtain ⟨M, hM⟩ := Int.eq_ofNat_of_zero_le (show 0 ≤ Lib.minOf (wtP L l) / 2 by omega)
  refine ⟨M, hM, by omega, fun t ht => ?_, ?_⟩
  · have e1 := (run_ok hc t).2
    have e2 := met_sum hc t
    rw [sum_zero (wtP L l) (fun a ha => fC_none hc.pos (by omega) (hw a ha).2.1 (by have := h2 a ha; omega))] at e2
    omega
  · have e1 := (run_ok hc M).2
    have e2 := met_sum hc M
    have h4 := sum_pos (L := L) (t := (M : Int)) (wtP L l) (fun a ha => by unfold fC; exact Int.ediv_nonneg (by have := hw a ha; omega) (by omega)) _ h1
    have h5 := fC_some (L := L) (t := (M : Int)) (a := Lib.minOf (wtP L l)) hc.pos (by omega)
    omega
theorem wtP_empty {L : Int} {l : List (Int × Int)} (h : ciB L l = true) : wtP L l = [] ↔ rAll l = 0 ∨ rAll l = l.length := by
  have h1 := way_counts h
  have h2 := wtm_len L (way 1 (gsOf L l)) (way (-1) (gsOf L l))
  rw [wtm_wtP] at h2
  rw [← List.length_eq_zero_iff, h2, Nat.mul_eq_zero]
  omega

set_option maxRecDepth 100000 in
set_option maxHeartbeats 2000000 in
theorem specNextMeeting_any (L : Int) (A : Option Addr) (c : Nat) (l : List (Int × Int)) (w : World) (hA : AntsAt w A l) :
    Calls Try.prog 10 #[.agg #[.int .i64 L, .slice A l.length c]] w fun e w' => e = .returned (.tuple #[.int .i64 (nmV L l), .bool (nmOk L l)]) ∧ Below w.heap.size w w' := by
  have HA := Lib.hid (hA.alloc (Obj.cells #[Value.int IntKind.i64 L, Value.slice A l.length c] 30))
  clear hA
  cases hg : ciB L l with
  | false =>
    have HV : Hid (nmV L l = 0 ∧ nmOk L l = false) := by show _ ∧ _; simp [nmV, nmOk, hg]
    have HG : Hid (∀ w, AntsAt w A l → Calls Try.prog 13 #[.agg #[.int .i64 L, .slice A l.length c]] w fun e w' => e = .returned (.bool false) ∧ Below w.heap.size w w') := fun w h => by
      rw [← hg]; exact ciGood_any L A c l w h
    clear hg
    go_enter Try.func10, Try.ntmps10
    go_wp2_with fail
    refine (HG.out _ HA.out).mono ?_
    rintro e w1 ⟨rfl, hb⟩
    go_wp2
    go_ret2
    exact ⟨ret_ib HV.out.1.symm HV.out.2.symm, ((Below.refl _ _).alloc (Nat.le_refl _) _).trans (hb.mono (by simp))⟩
  | true =>
    have HG : Hid (∀ w, AntsAt w A l → Calls Try.prog 13 #[.agg #[.int .i64 L, .slice A l.length c]] w fun e w' => e = .returned (.bool true) ∧ Below w.heap.size w w') := fun w h => by
      rw [← hg]; exact ciGood_any L A c l w h
    have hl := ciB_len hg
    have HR : Hid (∀ w, AntsAt w A l → Calls Try.prog 21 #[.agg #[.int .i64 L, .slice A l.length c]] w fun e w' => e = .returned (.int .i64 (rAll l)) ∧ Below w.heap.size w w') := fun w h => ciRight_any L A c l w hl.2.2.2 h
    by_cases hE : wtP L l = []
    · have HV : Hid (nmV L l = 0 ∧ nmOk L l = false) := by show _ ∧ _; simp [nmV, nmOk, hE]
      have hor := (wtP_empty hg).1 hE
      clear hg hE
      generalize rAll l = r at *
      have d2 : (r == 0) = true ∨ ((r == 0) = false ∧ (r == ((l.length : Nat) : Int)) = true) := by
        rcases hor with h | h
        · left; simpa using h
        · by_cases h2 : r = 0
          · left; simpa using h2
          · right; exact ⟨by simpa using h2, by simpa using h⟩
      clear hor
      rcases d2 with d2 | ⟨d2, d3⟩
      all_goals (
        go_enter Try.func10, Try.ntmps10
        go_wp2_with fail
        refine (HG.out _ HA.out).mono ?_
        rintro e w1 ⟨rfl, hb⟩
        have c0 : w1.cell? ⟨w.heap.size, 0, none⟩ = some (.int .i64 L) := by rw [hb.cell (p := ⟨w.heap.size, 0, none⟩) (by simp)]; simp
        have c1 : w1.cell? ⟨w.heap.size, 1, none⟩ = some (.slice A l.length c) := by rw [hb.cell (p := ⟨w.heap.size, 1, none⟩) (by simp)]; simp
        have HB := Lib.hid (((Below.refl _ w).alloc (Nat.le_refl _) _).trans (hb.mono (by simp)))
        have HA1 := Lib.hid (HA.out.below hb)
        clear hb
        go_wp2_with fail
        refine (HR.out _ HA1.out).mono ?_
        rintro e w2 ⟨rfl, hb2⟩
        have c0 := Below.cell_some hb2 c0
        have c1 := Below.cell_some hb2 c1
        have HB2 := Lib.hid (HB.out.trans (hb2.mono HB.out.size))
        clear hb2
        go_wp2
        go_ret2
        exact ⟨ret_ib HV.out.1.symm HV.out.2.symm, HB2.out⟩)
    · have HV : Hid (Lib.minOf (wtP L l) / 2 = nmV L l ∧ true = nmOk L l) := by
        have e : nmOk L l = true := by simp [nmOk, hg, hE]
        refine ⟨?_, e.symm⟩
        unfold nmV
        rw [if_pos e]
      obtain ⟨M, hM, hM2, hbf, hat⟩ := next_ok hg hE
      have HBF := Lib.hid hbf
      have HAT := Lib.hid hat
      have hor : ¬ (rAll l = 0 ∨ rAll l = l.length) := fun h => hE ((wtP_empty hg).2 h)
      have HC := Lib.hid (runC_len (circ_of hg))
      have HS := Lib.hid (fun w h => ciStart_any L A c l w hg h)
      clear hbf hat hg hE
      rw [hM] at HV
      clear hM
      generalize rAll l = r at *
      have d2 : (r == 0) = false := by simp; omega
      have d3 : (r == ((l.length : Nat) : Int)) = false := by simp; omega
      clear hor
      go_enter Try.func10, Try.ntmps10
      go_wp2_with fail
      refine (HG.out _ HA.out).mono ?_
      rintro e w1 ⟨rfl, hb⟩
      have c0 : w1.cell? ⟨w.heap.size, 0, none⟩ = some (.int .i64 L) := by rw [hb.cell (p := ⟨w.heap.size, 0, none⟩) (by simp)]; simp
      have c1 : w1.cell? ⟨w.heap.size, 1, none⟩ = some (.slice A l.length c) := by rw [hb.cell (p := ⟨w.heap.size, 1, none⟩) (by simp)]; simp
      have HB := Lib.hid (((Below.refl _ w).alloc (Nat.le_refl _) _).trans (hb.mono (by simp)))
      have HA1 := Lib.hid (HA.out.below hb)
      clear hb
      go_wp2_with fail
      refine (HR.out _ HA1.out).mono ?_
      rintro e w2 ⟨rfl, hb2⟩
      have c0 := Below.cell_some hb2 c0
      have c1 := Below.cell_some hb2 c1
      have HB2 := Lib.hid (HB.out.trans (hb2.mono HB.out.size))
      have HA2 := Lib.hid (HA1.out.below hb2)
      clear hb2
      go_wp2_with fail
      refine (HS.out _ HA2.out).mono ?_
      rintro e w3 ⟨b, ab, gb, ca, cg, rfl, hr3, hge, hb3⟩
      have HR3 := Lib.hid hr3
      have HB3 := Lib.hid (HB2.out.trans (hb3.mono HB2.out.size))
      have HGE := Lib.hid hge
      clear hr3 hge hb3 c0 c1 d2 d3
      go_wp2
      go_loopw [6] (fun v wr => ∃ k : Nat, k ≤ M ∧ v = .int .i64 k ∧ RunAt wr b ab 0 gb 0 l.length ca cg L (runC L l k).1 (runC L l k).2 ∧ Below w2.heap.size w3 wr)
        (fun v _ => M - (intOf v).toNat)
      case atStart => exact ⟨0, Nat.zero_le _, rfl, HR3.out, Below.refl _ _⟩
      case round =>
        obtain ⟨k, hk, rfl, hra, hbr⟩ := hrel
        obtain ⟨W1, rfl⟩ : ∃ W, W = wr := ⟨_, rfl⟩
        have c3 := hra.c3
        have HRA := Lib.hid hra
        have HBR := Lib.hid hbr
        clear hra hbr
        by_cases hlt : k < M
        · have hz := HBF.out k hlt
          have HNX : Hid (runC L l (k + 1) = stepC L (runC L l k)) := rfl
          generalize runC L l k = s at *
          obtain ⟨l1, m1⟩ := s
          simp only at hz c3
          subst hz
          have HSTP := Lib.hid (step_any w2.heap.size b ab 0 gb 0 l.length ca cg L l1 0 _ HRA.out ⟨by omega, by omega⟩ hl.2.2.2 (by omega) HGE.out)
          go_wp2_with fail
          refine HSTP.out.mono ?_
          rintro e w4 ⟨v, rfl, hr4, hb4⟩
          have HR4 := Lib.hid hr4
          have HB4 := Lib.hid (HBR.out.trans hb4)
          clear hr4 hb4
          go_wp2
          go_roundw
          case rel => exact ⟨k + 1, by omega, by go_num, by rw [HNX.out]; exact HR4.out, HB4.out⟩
          case measure => simp [intOf]; omega
        · have hke : k = M := by omega
          subst hke
          have d3 : ((((runC L l k).2 : Nat) : Int) == 0) = false := by have := HAT.out; simpa using this
          generalize runC L l k = s at *
          go_wp2
          go_ret2
          exact ⟨ret_ib HV.out.1 HV.out.2, HB3.out.trans (HBR.out.mono HB2.out.size)⟩

set_option maxRecDepth 100000 in
set_option maxHeartbeats 1000000 in
theorem implNextMeeting_any (L : Int) (A : Option Addr) (c : Nat) (l : List (Int × Int)) (w : World) (hA : AntsAt w A l) :
    Calls Try.prog 11 #[.agg #[.int .i64 L, .slice A l.length c]] w fun e w' => e = .returned (.tuple #[.int .i64 (nmV L l), .bool (nmOk L l)]) ∧ Below w.heap.size w w' := by
  have HA := Lib.hid (hA.alloc (Obj.cells #[Value.int IntKind.i64 L, Value.slice A l.length c] 30))
  clear hA
  cases hg : ciB L l with
  | false =>
    have HV : Hid (nmV L l = 0 ∧ nmOk L l = false) := by show _ ∧ _; simp [nmV, nmOk, hg]
    have HG : Hid (∀ w, AntsAt w A l → Calls Try.prog 17 #[.agg #[.int .i64 L, .slice A l.length c]] w fun e w' => e = .returned (.bool false) ∧ Below w.heap.size w w') := fun w h => by
      rw [← hg]; exact isCircle_any L A c l w h
    clear hg
    go_enter Try.func11, Try.ntmps11
    go_wp2_with fail
    refine (HG.out _ HA.out).mono ?_
    rintro e w1 ⟨rfl, hb⟩
    go_wp2
    go_ret2
    exact ⟨ret_ib HV.out.1.symm HV.out.2.symm, ((Below.refl _ _).alloc (Nat.le_refl _) _).trans (hb.mono (by simp))⟩
  | true =>
    have HG : Hid (∀ w, AntsAt w A l → Calls Try.prog 17 #[.agg #[.int .i64 L, .slice A l.length c]] w fun e w' => e = .returned (.bool true) ∧ Below w.heap.size w w') := fun w h => by
      rw [← hg]; exact isCircle_any L A c l w h
    have HW := Lib.hid (fun w h => waysToMeet_any L A c l w hg h)
    rw [wtm_wtP] at HW
    have hwl := wtP_len hg
    have HWO := Lib.hid (fun a ha => wtP_ok (circ_of hg) a ha)
    have hl := ciB_len hg
    by_cases hE : wtP L l = []
    · have HV : Hid (nmV L l = 0 ∧ nmOk L l = false) := by show _ ∧ _; simp [nmV, nmOk, hE]
      rw [hE] at HW
      clear hg hE hwl HWO
      go_enter Try.func11, Try.ntmps11
      go_wp2_with fail
      refine (HG.out _ HA.out).mono ?_
      rintro e w1 ⟨rfl, hb⟩
      have c0 : w1.cell? ⟨w.heap.size, 0, none⟩ = some (.int .i64 L) := by rw [hb.cell (p := ⟨w.heap.size, 0, none⟩) (by simp)]; simp
      have c1 : w1.cell? ⟨w.heap.size, 1, none⟩ = some (.slice A l.length c) := by rw [hb.cell (p := ⟨w.heap.size, 1, none⟩) (by simp)]; simp
      have HB := Lib.hid (((Below.refl _ w).alloc (Nat.le_refl _) _).trans (hb.mono (by simp)))
      have HA1 := Lib.hid (HA.out.below hb)
      clear hb
      go_wp2_with fail
      refine (HW.out _ HA1.out).mono ?_
      rintro e w2 ⟨A2, n2, c2, rfl, hn2, _, hb2⟩
      simp only [List.length_nil] at hn2
      subst hn2
      have HB2 := Lib.hid (HB.out.trans (hb2.mono HB.out.size))
      clear hb2
      go_wp2
      go_ret2
      exact ⟨ret_ib HV.out.1.symm HV.out.2.symm, HB2.out⟩
    · have HV : Hid (Lib.minOf (wtP L l) / 2 = nmV L l ∧ true = nmOk L l) := by
        have e : nmOk L l = true := by simp [nmOk, hg, hE]
        refine ⟨?_, e.symm⟩
        unfold nmV
        rw [if_pos e]
      have hmo := minOf_ok hE
      have hm1 := HWO.out _ hmo.1
      have hpos : 0 < (wtP L l).length := List.length_pos_iff.2 hE
      clear hg hE hmo
      generalize wtP L l = q at *
      have d1 : (((q.length : Nat) : Int) == 0) = false := by simp; intro e; rw [e] at hpos; simp at hpos
      have HMN := Lib.hid (fun b off c w h => min_any b off q.length c q w hpos rfl (by omega) h)
      generalize Lib.minOf q = m at *
      have HE : Hid (m.tdiv 2 = m / 2) := Int.tdiv_eq_ediv_of_nonneg (by omega)
      have hwm : IntKind.i64.wrap (m.tdiv 2) = m.tdiv 2 := by rw [HE.out]; exact IntWalk.i64_in _ (by omega)
      go_enter Try.func11, Try.ntmps11
      go_wp2_with fail
      refine (HG.out _ HA.out).mono ?_
      rintro e w1 ⟨rfl, hb⟩
      have c0 : w1.cell? ⟨w.heap.size, 0, none⟩ = some (.int .i64 L) := by rw [hb.cell (p := ⟨w.heap.size, 0, none⟩) (by simp)]; simp
      have c1 : w1.cell? ⟨w.heap.size, 1, none⟩ = some (.slice A l.length c) := by rw [hb.cell (p := ⟨w.heap.size, 1, none⟩) (by simp)]; simp
      have HB := Lib.hid (((Below.refl _ w).alloc (Nat.le_refl _) _).trans (hb.mono (by simp)))
      have HA1 := Lib.hid (HA.out.below hb)
      clear hb
      go_wp2_with fail
      refine (HW.out _ HA1.out).mono ?_
      rintro e w2 ⟨A2, n2, c2, rfl, hn2, ho2, hb2⟩
      subst hn2
      obtain ⟨b, off, rfl, l0, hc⟩ := ho2.sl.int_at hpos
      have HCC := Lib.hid hc
      have HB2 := Lib.hid (HB.out.trans (hb2.mono HB.out.size))
      clear hb2 ho2 hc c0 c1
      go_wp2_with fail
      refine (HMN.out _ _ _ _ HCC.out).mono ?_
      rintro e w3 ⟨rfl, hb3⟩
      go_wp2
      go_ret2
      exact ⟨ret_ib (by first | (rw [← HV.out.1, ← HE.out]) | exact HV.out.1) HV.out.2, HB2.out.trans (hb3.mono HB2.out.size)⟩
end Go.Proofs.Ytmfbppolmkcpdaa
