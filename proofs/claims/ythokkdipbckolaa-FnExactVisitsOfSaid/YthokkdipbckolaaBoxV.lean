/- VisitsOf on both sides. -/
import Derived.Test.YthokkdipbckolaaBoxT
namespace Go.Proofs.Ythokkdipbckolaa
open Go.RowKit

def viOk (L : Int) (l : List (Int × Int)) (p : Int) : Bool := boxB L l && (decide (0 ≤ p) && decide (p ≤ L) && (p % 2 == 0))
def viV (L : Int) (l : List (Int × Int)) (p : Int) : Int := if viOk L l p then (viB L l p L.toNat : Int) else 0
theorem viV_no {L : Int} {l : List (Int × Int)} {p : Int} (h : viOk L l p = false) : viV L l p = 0 := by unfold viV; rw [h]; rfl
theorem viV_yes {L : Int} {l : List (Int × Int)} {p : Int} (h : viOk L l p = true) : viV L l p = (viB L l p L.toNat : Int) := by unfold viV; rw [h]; rfl
theorem viB_le (L : Int) (l : List (Int × Int)) (p : Int) (hl : l.length ≤ 16) : ∀ k, viB L l p k ≤ 16 * k
  | 0 => Nat.le_refl _
  | k + 1 => by
    have ih := viB_le L l p hl k
    have h1 : (bxA L (2 * ((k : Int) + 1)) l).countP (fun x => x.1 == p) ≤ (bxA L (2 * ((k : Int) + 1)) l).length := List.countP_le_length
    rw [bxA_len] at h1
    show viB L l p k + _ ≤ _
    omega
theorem countP_snoc {m : List (Int × Int)} {j : Nat} {y : Int × Int} (hy : m[j]? = some y) (p : Int) : (m.take (j + 1)).countP (fun x => x.1 == p) = (m.take j).countP (fun x => x.1 == p) + if y.1 == p then 1 else 0 := by
  obtain ⟨hj, rfl⟩ := List.getElem?_eq_some_iff.1 hy
  rw [List.take_succ_eq_append_getElem hj, List.countP_append, List.countP_singleton]

set_option maxRecDepth 100000 in
set_option maxHeartbeats 4000000 in
theorem implVisitsOf_any (L : Int) (A : Option Addr) (c : Nat) (l : List (Int × Int)) (p : Int) (w : World) (hA : AntsAt w A l) :
    Calls Try.prog 32 #[.agg #[.int .i64 L, .slice A l.length c], .int .i64 p] w fun e w' => e = .returned (.tuple #[.int .i64 (viV L l p), .bool (viOk L l p)]) ∧ Below w.heap.size w w' := by
  have HA := Lib.hid (hA.alloc (Obj.cells #[Value.int IntKind.i64 L, Value.slice A l.length c] 29))
  clear hA
  cases hg : boxB L l with
  | false =>
    have HO : Hid (viOk L l p = false) := by show _ = _; unfold viOk; rw [hg]; rfl
    have HX := Lib.hid (viV_no HO.out)
    have HG : Hid (∀ w, AntsAt w A l → Calls Try.prog 15 #[.agg #[.int .i64 L, .slice A l.length c]] w fun e w' => e = .returned (.bool false) ∧ Below w.heap.size w w') := fun w h => by rw [← hg]; exact isBox_any L A c l w h
    clear hg
    go_enter Try.func32, Try.ntmps32
    go_wp2_with fail
    refine (HG.out _ HA.out).mono ?_
    rintro e w1 ⟨rfl, hb⟩
    have c0 : w1.cell? ⟨w.heap.size, 0, none⟩ = some (.int .i64 L) := by rw [hb.cell (p := ⟨w.heap.size, 0, none⟩) (by simp)]; simp [go_sem]
    have c1 : w1.cell? ⟨w.heap.size, 1, none⟩ = some (.slice A l.length c) := by rw [hb.cell (p := ⟨w.heap.size, 1, none⟩) (by simp)]; simp [go_sem]
    have HA1 := Lib.hid (HA.out.below hb)
    have HB := Lib.hid (((Below.refl _ w).alloc (Nat.le_refl _) _).trans (hb.mono (by simp)))
    clear hb
    go_wp2
    go_ret2
    exact ⟨ret_ib3 HX.out.symm HO.out.symm, HB.out⟩
  | true =>
    have HG : Hid (∀ w, AntsAt w A l → Calls Try.prog 15 #[.agg #[.int .i64 L, .slice A l.length c]] w fun e w' => e = .returned (.bool true) ∧ Below w.heap.size w w') := fun w h => by rw [← hg]; exact isBox_any L A c l w h
    have hl := boxB_len hg
    by_cases hr : 0 ≤ p ∧ p ≤ L
    · by_cases he : p % 2 = 0
      · have HO : Hid (viOk L l p = true) := by show _ = _; unfold viOk; rw [hg]; simp [hr, he]
        have HX := Lib.hid (viV_yes HO.out)
        have htm : p.tmod 2 = 0 := by rw [Int.tmod_eq_emod_of_nonneg hr.1]; exact he
        have hva := viB_all (box_of hg) (p := p) ⟨hr.1, hr.2, he⟩
        have hr2 : ¬ p < 0 := by omega
        have hr3 : ¬ L < p := by omega
        clear hg he
        by_cases hp0 : p = 0
        · have HVV : Hid (viV L l p = (l.length : Int)) := by show _ = _; rw [HX.out, hva, if_pos (.inl hp0)]
          have d0 : (p == 0) = true := by simpa using hp0
          clear hr hva hp0
          go_enter Try.func32, Try.ntmps32
          go_wp2_with fail
          refine (HG.out _ HA.out).mono ?_
          rintro e w1 ⟨rfl, hb⟩
          have c0 : w1.cell? ⟨w.heap.size, 0, none⟩ = some (.int .i64 L) := by rw [hb.cell (p := ⟨w.heap.size, 0, none⟩) (by simp)]; simp [go_sem]
          have c1 : w1.cell? ⟨w.heap.size, 1, none⟩ = some (.slice A l.length c) := by rw [hb.cell (p := ⟨w.heap.size, 1, none⟩) (by simp)]; simp [go_sem]
          have HA1 := Lib.hid (HA.out.below hb)
          have HB := Lib.hid (((Below.refl _ w).alloc (Nat.le_refl _) _).trans (hb.mono (by simp)))
          clear hb
          go_wp2
          go_ret2
          exact ⟨ret_ib3 HVV.out.symm HO.out.symm, HB.out⟩
        · by_cases hpL : p = L
          · have HVV : Hid (viV L l p = (l.length : Int)) := by show _ = _; rw [HX.out, hva, if_pos (.inr hpL)]
            have d0 : (p == 0) = false := by simpa using hp0
            have d1 : (p == L) = true := by simpa using hpL
            clear hr hva hp0 hpL
            go_enter Try.func32, Try.ntmps32
            go_wp2_with fail
            refine (HG.out _ HA.out).mono ?_
            rintro e w1 ⟨rfl, hb⟩
            have c0 : w1.cell? ⟨w.heap.size, 0, none⟩ = some (.int .i64 L) := by rw [hb.cell (p := ⟨w.heap.size, 0, none⟩) (by simp)]; simp [go_sem]
            have c1 : w1.cell? ⟨w.heap.size, 1, none⟩ = some (.slice A l.length c) := by rw [hb.cell (p := ⟨w.heap.size, 1, none⟩) (by simp)]; simp [go_sem]
            have HA1 := Lib.hid (HA.out.below hb)
            have HB := Lib.hid (((Below.refl _ w).alloc (Nat.le_refl _) _).trans (hb.mono (by simp)))
            clear hb
            go_wp2
            go_ret2
            exact ⟨ret_ib3 HVV.out.symm HO.out.symm, HB.out⟩
          · have HVV : Hid (viV L l p = 2 * (l.length : Int)) := by show _ = _; rw [HX.out, hva, if_neg (by omega)]; omega
            have d0 : (p == 0) = false := by simpa using hp0
            have d1 : (p == L) = false := by simpa using hpL
            have hw2n : IntKind.i64.wrap (2 * (l.length : Int)) = 2 * (l.length : Int) := IntWalk.i64_in _ (by omega)
            clear hr hva hp0 hpL
            go_enter Try.func32, Try.ntmps32
            go_wp2_with fail
            refine (HG.out _ HA.out).mono ?_
            rintro e w1 ⟨rfl, hb⟩
            have c0 : w1.cell? ⟨w.heap.size, 0, none⟩ = some (.int .i64 L) := by rw [hb.cell (p := ⟨w.heap.size, 0, none⟩) (by simp)]; simp [go_sem]
            have c1 : w1.cell? ⟨w.heap.size, 1, none⟩ = some (.slice A l.length c) := by rw [hb.cell (p := ⟨w.heap.size, 1, none⟩) (by simp)]; simp [go_sem]
            have HA1 := Lib.hid (HA.out.below hb)
            have HB := Lib.hid (((Below.refl _ w).alloc (Nat.le_refl _) _).trans (hb.mono (by simp)))
            clear hb
            go_wp2
            go_ret2
            exact ⟨ret_ib3 HVV.out.symm HO.out.symm, HB.out⟩
      · have HO : Hid (viOk L l p = false) := by show _ = _; unfold viOk; simp [he]
        have HX := Lib.hid (viV_no HO.out)
        have htm : p.tmod 2 = 1 := by rw [Int.tmod_eq_emod_of_nonneg hr.1]; omega
        have hr0 := hr.1
        have hr1 := hr.2
        have hr2 : ¬ p < 0 := by omega
        have hr3 : ¬ L < p := by omega
        clear hg he hr
        go_enter Try.func32, Try.ntmps32
        go_wp2_with fail
        refine (HG.out _ HA.out).mono ?_
        rintro e w1 ⟨rfl, hb⟩
        have c0 : w1.cell? ⟨w.heap.size, 0, none⟩ = some (.int .i64 L) := by rw [hb.cell (p := ⟨w.heap.size, 0, none⟩) (by simp)]; simp [go_sem]
        have c1 : w1.cell? ⟨w.heap.size, 1, none⟩ = some (.slice A l.length c) := by rw [hb.cell (p := ⟨w.heap.size, 1, none⟩) (by simp)]; simp [go_sem]
        have HA1 := Lib.hid (HA.out.below hb)
        have HB := Lib.hid (((Below.refl _ w).alloc (Nat.le_refl _) _).trans (hb.mono (by simp)))
        clear hb
        go_wp2
        go_ret2
        exact ⟨ret_ib3 HX.out.symm HO.out.symm, HB.out⟩
    · have HO : Hid (viOk L l p = false) := by
        show _ = _
        unfold viOk
        have : (decide (0 ≤ p) && decide (p ≤ L)) = false := by simp; omega
        rw [this]
        simp
      have HX := Lib.hid (viV_no HO.out)
      clear hg
      by_cases hp0 : p < 0
      · clear hr
        go_enter Try.func32, Try.ntmps32
        go_wp2_with fail
        refine (HG.out _ HA.out).mono ?_
        rintro e w1 ⟨rfl, hb⟩
        have c0 : w1.cell? ⟨w.heap.size, 0, none⟩ = some (.int .i64 L) := by rw [hb.cell (p := ⟨w.heap.size, 0, none⟩) (by simp)]; simp [go_sem]
        have c1 : w1.cell? ⟨w.heap.size, 1, none⟩ = some (.slice A l.length c) := by rw [hb.cell (p := ⟨w.heap.size, 1, none⟩) (by simp)]; simp [go_sem]
        have HA1 := Lib.hid (HA.out.below hb)
        have HB := Lib.hid (((Below.refl _ w).alloc (Nat.le_refl _) _).trans (hb.mono (by simp)))
        clear hb
        go_wp2
        go_ret2
        exact ⟨ret_ib3 HX.out.symm HO.out.symm, HB.out⟩
      · have hp1 : L < p := by omega
        clear hr
        go_enter Try.func32, Try.ntmps32
        go_wp2_with fail
        refine (HG.out _ HA.out).mono ?_
        rintro e w1 ⟨rfl, hb⟩
        have c0 : w1.cell? ⟨w.heap.size, 0, none⟩ = some (.int .i64 L) := by rw [hb.cell (p := ⟨w.heap.size, 0, none⟩) (by simp)]; simp [go_sem]
        have c1 : w1.cell? ⟨w.heap.size, 1, none⟩ = some (.slice A l.length c) := by rw [hb.cell (p := ⟨w.heap.size, 1, none⟩) (by simp)]; simp [go_sem]
        have HA1 := Lib.hid (HA.out.below hb)
        have HB := Lib.hid (((Below.refl _ w).alloc (Nat.le_refl _) _).trans (hb.mono (by simp)))
        clear hb
        go_wp2
        go_ret2
        exact ⟨ret_ib3 HX.out.symm HO.out.symm, HB.out⟩

set_option maxRecDepth 100000 in
set_option maxHeartbeats 4000000 in
theorem specVisitsOf_any (L : Int) (A : Option Addr) (c : Nat) (l : List (Int × Int)) (p : Int) (w : World) (hA : AntsAt w A l) :
    Calls Try.prog 31 #[.agg #[.int .i64 L, .slice A l.length c], .int .i64 p] w fun e w' => e = .returned (.tuple #[.int .i64 (viV L l p), .bool (viOk L l p)]) ∧ Below w.heap.size w w' := by
  have HA := Lib.hid (hA.alloc (Obj.cells #[Value.int IntKind.i64 L, Value.slice A l.length c] 29))
  clear hA
  cases hg : boxB L l with
  | false =>
    have HO : Hid (viOk L l p = false) := by show _ = _; unfold viOk; rw [hg]; rfl
    have HX := Lib.hid (viV_no HO.out)
    have HG : Hid (∀ w, AntsAt w A l → Calls Try.prog 39 #[.agg #[.int .i64 L, .slice A l.length c]] w fun e w' => e = .returned (.bool false) ∧ Below w.heap.size w w') := fun w h => by rw [← hg]; exact waGood_any L A c l w h
    clear hg
    go_enter Try.func31, Try.ntmps31
    go_wp2_with fail
    refine (HG.out _ HA.out).mono ?_
    rintro e w1 ⟨rfl, hb⟩
    have c0 : w1.cell? ⟨w.heap.size, 0, none⟩ = some (.int .i64 L) := by rw [hb.cell (p := ⟨w.heap.size, 0, none⟩) (by simp)]; simp [go_sem]
    have c1 : w1.cell? ⟨w.heap.size, 1, none⟩ = some (.slice A l.length c) := by rw [hb.cell (p := ⟨w.heap.size, 1, none⟩) (by simp)]; simp [go_sem]
    have HA1 := Lib.hid (HA.out.below hb)
    have HB := Lib.hid (((Below.refl _ w).alloc (Nat.le_refl _) _).trans (hb.mono (by simp)))
    clear hb
    go_wp2
    go_ret2
    exact ⟨ret_ib3 HX.out.symm HO.out.symm, HB.out⟩
  | true =>
    have HG : Hid (∀ w, AntsAt w A l → Calls Try.prog 39 #[.agg #[.int .i64 L, .slice A l.length c]] w fun e w' => e = .returned (.bool true) ∧ Below w.heap.size w w') := fun w h => by rw [← hg]; exact waGood_any L A c l w h
    have hl := boxB_len hg
    by_cases hr : 0 ≤ p ∧ p ≤ L
    · by_cases he : p % 2 = 0
      · have HO : Hid (viOk L l p = true) := by show _ = _; unfold viOk; rw [hg]; simp [hr, he]
        have HX := Lib.hid (viV_yes HO.out)
        have htm : p.tmod 2 = 0 := by rw [Int.tmod_eq_emod_of_nonneg hr.1]; exact he
        have hr0 := hr.1
        have hr1 := hr.2
        have HST : Hid (∀ w, AntsAt w A l → Calls Try.prog 55 #[.agg #[.int .i64 L, .slice A l.length c]] w fun e w' => ∃ b ab gb ca cg, e = .returned (.pointer (some ⟨b, 0, none⟩)) ∧ BxAt w' b ab 0 gb 0 l.length ca cg L l 0 0 0 (List.replicate l.length 0) ∧ (w.heap.size ≤ b ∧ w.heap.size ≤ ab ∧ w.heap.size ≤ gb) ∧ Below w.heap.size w w') := fun w h => waStart_any L A c l w hg h
        have HSP : Hid (∀ (B b ab gb ca cg s : Nat) (w : World), s ≤ 4000 → BxAt w b ab 0 gb 0 l.length ca cg L (runB L l s).1 (leB L l s) (riB L l s) (runB L l s).2 (knB L l s) → (B ≤ b ∧ B ≤ ab ∧ B ≤ gb) → Calls Try.prog 56 #[.pointer (some ⟨b, 0, none⟩)] w fun e w' => ∃ v, e = .returned v ∧ BxAt w' b ab 0 gb 0 l.length ca cg L (runB L l (s + 1)).1 (leB L l (s + 1)) (riB L l (s + 1)) (runB L l (s + 1)).2 (knB L l (s + 1)) ∧ Below B w w') := fun B b ab gb ca cg s w h1 h2 h3 => stepRun_any B b ab gb ca cg L l s w hg h1 h2 h3
        have HRB : Hid (∀ t : Nat, (runB L l t).1 = bxA L t l) := fun t => runB_bxA (box_of hg) t
        have HVL : Hid (∀ k, viB L l p k ≤ 16 * k) := viB_le L l p hl.2.2.2
        have HVS : Hid (∀ k : Nat, viB L l p (k + 1) = viB L l p k + (bxA L ((2 * (k + 1) : Nat) : Int) l).countP fun x => x.1 == p) := fun k => rfl
        have HLN : Hid (∀ t : Int, (bxA L t l).length = l.length) := fun t => bxA_len L t l
        clear hg he hr
        go_enter Try.func31, Try.ntmps31
        go_wp2_with fail
        refine (HG.out _ HA.out).mono ?_
        rintro e w1 ⟨rfl, hb⟩
        have c0 : w1.cell? ⟨w.heap.size, 0, none⟩ = some (.int .i64 L) := by rw [hb.cell (p := ⟨w.heap.size, 0, none⟩) (by simp)]; simp [go_sem]
        have c1 : w1.cell? ⟨w.heap.size, 1, none⟩ = some (.slice A l.length c) := by rw [hb.cell (p := ⟨w.heap.size, 1, none⟩) (by simp)]; simp [go_sem]
        have HA1 := Lib.hid (HA.out.below hb)
        have HB := Lib.hid (((Below.refl _ w).alloc (Nat.le_refl _) _).trans (hb.mono (by simp)))
        clear hb
        go_wp2_with fail
        refine (in_at p 0 L true (by simp; omega) _).mono ?_
        rintro e w2 ⟨rfl, rfl⟩
        have HC : Hid (w1.cell? ⟨w.heap.size, 0, none⟩ = some (.int .i64 L)) := c0
        go_wp2_with fail
        refine (HST.out _ HA1.out).mono ?_
        rintro e w2 ⟨b, ab, gb, ca, cg, rfl, hra, hge, hb⟩
        have HR := Lib.hid hra
        have HGE := Lib.hid hge
        have HB2 := Lib.hid hb
        clear hra hge hb c0 c1
        obtain ⟨M, hM⟩ : ∃ M : Nat, L = M := ⟨L.toNat, by omega⟩
        have HM : Hid (L.toNat = M) := by show _ = _; omega
        have hM1 : M ≤ 1000 := by omega
        have HML := Lib.hid hM
        go_wp2
        go_loopw [7, 8] (fun u v wr => ∃ k : Nat, k ≤ M ∧ v = .int .i64 ((2 * (k + 1) : Nat) : Int) ∧ u = .int .i64 (viB L l p k : Int) ∧ BxAt wr b ab 0 gb 0 l.length ca cg L (runB L l (2 * k)).1 (leB L l (2 * k)) (riB L l (2 * k)) (runB L l (2 * k)).2 (knB L l (2 * k)) ∧ Below w1.heap.size w1 wr)
          (fun _ v _ => 2 * M + 2 - (intOf v).toNat)
        case atStart => exact ⟨0, Nat.zero_le _, rfl, rfl, HR.out, HB2.out⟩
        case round =>
          obtain ⟨k, hk, rfl, rfl, hra, hbr⟩ := hrel
          obtain ⟨W1, rfl⟩ : ∃ W, W = wr := ⟨_, rfl⟩
          have HRA := Lib.hid hra
          have HBR := Lib.hid hbr
          have c0 := Below.cell_some hbr HC.out
          have hvl := HVL.out k
          have hw2L : IntKind.i64.wrap (2 * L) = 2 * L := IntWalk.i64_in _ (by omega)
          clear hra hbr
          obtain ⟨T, hT⟩ : ∃ T : Nat, T = 2 * (k + 1) := ⟨_, rfl⟩
          have HTT := Lib.hid hT
          rw [← hT]
          by_cases hlt : k < M
          · have htl : (T : Int) ≤ 2 * L := by omega
            have hwT : IntKind.i64.wrap ((T : Int) + 2) = ((2 * (k + 1 + 1) : Nat) : Int) := by rw [show (T : Int) + 2 = ((2 * (k + 1 + 1) : Nat) : Int) by omega]; exact IntWalk.i64_in _ (by omega)
            have HVK := Lib.hid (HVS.out k)
            rw [← hT] at HVK
            clear hT hM
            go_wp2_with fail
            refine (HSP.out w1.heap.size b ab gb ca cg (2 * k) _ (by omega) HRA.out HGE.out).mono ?_
            rintro e W2 ⟨v, rfl, hr2, hb2⟩
            have HR2 := Lib.hid hr2
            have HB3 := Lib.hid (HBR.out.trans hb2)
            clear hr2 hb2 c0
            go_wp2_with fail
            refine (HSP.out w1.heap.size b ab gb ca cg (2 * k + 1) _ (by omega) HR2.out HGE.out).mono ?_
            rintro e W3 ⟨v2, rfl, hr3, hb3⟩
            have HB4 := Lib.hid (HB3.out.trans hb3)
            have HR3 : Hid (BxAt W3 b ab 0 gb 0 l.length ca cg L (runB L l (2 * (k + 1))).1 (leB L l (2 * (k + 1))) (riB L l (2 * (k + 1))) (runB L l (2 * (k + 1))).2 (knB L l (2 * (k + 1)))) := hr3
            have hls : (runB L l (2 * (k + 1))).1 = bxA L (T : Int) l := by rw [HRB.out, HTT.out]
            have ho := HR3.out.own
            rw [hls] at ho
            have HLT := Lib.hid (HLN.out (T : Int))
            have HOW := Lib.hid ((antsOwn_iff.1 ho.2.2).sl)
            have q1 := ho.2.1
            have hca := HR3.out.nc.1
            clear hr3 hb3 hls ho
            generalize bxA L (T : Int) l = m at *
            obtain ⟨V, hV⟩ : ∃ V, V = viB L l p k := ⟨_, rfl⟩
            rw [← hV] at hvl HVK ⊢
            clear hV
            go_wp2
            go_loopw [7, 44] (fun u v wr => ∃ j : Nat, j ≤ l.length ∧ v = .int .i64 j ∧ u = .int .i64 ((V + (m.take j).countP (fun x => x.1 == p) : Nat) : Int) ∧ Below W3.heap.size W3 wr)
              (fun _ v _ => l.length - (intOf v).toNat)
            case atStart => exact ⟨0, Nat.zero_le _, rfl, rfl, Below.refl _ _⟩
            case round =>
              obtain ⟨j, hj, rfl, rfl, hbq⟩ := hrel
              obtain ⟨W5, rfl⟩ : ∃ W, W = wr := ⟨_, rfl⟩
              have HBQ := Lib.hid hbq
              have HO5 := Lib.hid (HOW.out.below hbq)
              clear hbq
              have hcl : (m.take j).countP (fun x => x.1 == p) ≤ 16 := by
                have h1 : (m.take j).countP (fun x => x.1 == p) ≤ (m.take j).length := List.countP_le_length
                rw [List.length_take] at h1
                omega
              by_cases hjl : j < l.length
              · obtain ⟨b2, off2, hab, l2, hc⟩ := HO5.out.at_ (show j < m.length by have := HLT.out; omega)
                injection hab with hab
                injection hab with hab1 hab2
                subst hab1
                subst hab2
                have hy : m[j]? = some (m.getD j (0, 0)) := by rw [List.getD_eq_getElem?_getD, List.getElem?_eq_getElem (by have := HLT.out; omega)]; rfl
                have a0 := hc j _ hy 0 (by decide)
                have a1 := hc j _ hy 1 (by decide)
                have HCS := Lib.hid (countP_snoc hy p)
                generalize m.getD j (0, 0) = y at *
                obtain ⟨y1, y2⟩ := y
                replace a0 : W5.cell? ⟨ab, 0 + j * 2, none⟩ = some (.int .i64 y1) := a0
                replace a1 : W5.cell? ⟨ab, 0 + j * 2 + 1, none⟩ = some (.int .i64 y2) := a1
                rw [Nat.zero_add] at a0 a1
                clear hc hy
                have hjn : (j : Int) < (l.length : Int) := by omega
                have hjc : (j : Int) < (ca : Int) := by omega
                generalize (m.take j).countP (fun x => x.1 == p) = C at *
                have hwC : IntKind.i64.wrap (((V + C : Nat) : Int) + 1) = ((V + (C + 1) : Nat) : Int) := by rw [show ((V + C : Nat) : Int) + 1 = ((V + (C + 1) : Nat) : Int) by omega]; exact IntWalk.i64_in _ (by omega)
                have HB6 := Lib.hid (HBQ.out.alloc HBQ.out.size (Obj.cells #[Value.int IntKind.i64 y1, Value.int IntKind.i64 y2] 53))
                obtain ⟨Z, hZ⟩ : ∃ Z, Z = V + C := ⟨_, rfl⟩
                have HZ := Lib.hid hZ
                rw [← hZ] at hwC ⊢
                clear hZ
                by_cases hyp : y1 = p
                · have d : (y1 == p) = true := by simpa using hyp
                  have HC2 : Hid ((m.take (j + 1)).countP (fun x => x.1 == p) = C + 1) := by show _ = _; rw [HCS.out]; simp only; rw [if_pos d]
                  clear hyp
                  go_wp2
                  go_roundw
                  case rel => exact ⟨j + 1, by omega, by go_num, by rw [HC2.out]; rfl, HB6.out⟩
                  case measure => simp [intOf]; omega
                · have d : (y1 == p) = false := by simpa using hyp
                  have HC2 : Hid ((m.take (j + 1)).countP (fun x => x.1 == p) = C) := by show _ = _; rw [HCS.out]; simp only; rw [if_neg (by rw [d]; decide)]; rfl
                  clear hyp
                  go_wp2
                  go_roundw
                  case rel => exact ⟨j + 1, by omega, by go_num, by rw [HC2.out, HZ.out], HB6.out⟩
                  case measure => simp [intOf]; omega
              · obtain rfl : j = l.length := by omega
                have HTE : Hid (m.take l.length = m) := by show _ = _; rw [← HLT.out]; exact List.take_length
                have HFE : Hid (V + (m.take l.length).countP (fun x => x.1 == p) = viB L l p (k + 1)) := by show _ = _; rw [HTE.out]; exact HVK.out.symm
                rw [HFE.out]
                go_wp2
                go_roundw
                case rel => exact ⟨k + 1, by omega, rfl, rfl, HR3.out.below HBQ.out, HB4.out.trans (HBQ.out.mono HB4.out.size)⟩
                case measure => (have := HTT.out; simp [intOf]; omega)
          · obtain rfl : k = M := by omega
            have hnl : ¬ (T : Int) ≤ 2 * L := by omega
            have HXX : Hid (viV L l p = (viB L l p k : Int)) := by show _ = _; rw [HX.out, HM.out]
            clear hT hM
            go_wp2
            go_ret2
            exact ⟨ret_ib3 HXX.out.symm HO.out.symm, HB.out.trans (HBR.out.mono HB.out.size)⟩
      · have HO : Hid (viOk L l p = false) := by show _ = _; unfold viOk; simp [he]
        have HX := Lib.hid (viV_no HO.out)
        have htm : p.tmod 2 = 1 := by rw [Int.tmod_eq_emod_of_nonneg hr.1]; omega
        have hr0 := hr.1
        have hr1 := hr.2
        have hr2 : ¬ p < 0 := by omega
        have hr3 : ¬ L < p := by omega
        clear hg he hr
        go_enter Try.func31, Try.ntmps31
        go_wp2_with fail
        refine (HG.out _ HA.out).mono ?_
        rintro e w1 ⟨rfl, hb⟩
        have c0 : w1.cell? ⟨w.heap.size, 0, none⟩ = some (.int .i64 L) := by rw [hb.cell (p := ⟨w.heap.size, 0, none⟩) (by simp)]; simp [go_sem]
        have c1 : w1.cell? ⟨w.heap.size, 1, none⟩ = some (.slice A l.length c) := by rw [hb.cell (p := ⟨w.heap.size, 1, none⟩) (by simp)]; simp [go_sem]
        have HA1 := Lib.hid (HA.out.below hb)
        have HB := Lib.hid (((Below.refl _ w).alloc (Nat.le_refl _) _).trans (hb.mono (by simp)))
        clear hb
        go_wp2_with fail
        refine (in_at p 0 L true (by simp; omega) _).mono ?_
        rintro e w2 ⟨rfl, rfl⟩
        go_wp2
        go_ret2
        exact ⟨ret_ib3 HX.out.symm HO.out.symm, HB.out⟩
    · have HO : Hid (viOk L l p = false) := by
        show _ = _
        unfold viOk
        have : (decide (0 ≤ p) && decide (p ≤ L)) = false := by simp; omega
        rw [this]
        simp
      have HX := Lib.hid (viV_no HO.out)
      clear hg
      go_enter Try.func31, Try.ntmps31
      go_wp2_with fail
      refine (HG.out _ HA.out).mono ?_
      rintro e w1 ⟨rfl, hb⟩
      have c0 : w1.cell? ⟨w.heap.size, 0, none⟩ = some (.int .i64 L) := by rw [hb.cell (p := ⟨w.heap.size, 0, none⟩) (by simp)]; simp [go_sem]
      have c1 : w1.cell? ⟨w.heap.size, 1, none⟩ = some (.slice A l.length c) := by rw [hb.cell (p := ⟨w.heap.size, 1, none⟩) (by simp)]; simp [go_sem]
      have HA1 := Lib.hid (HA.out.below hb)
      have HB := Lib.hid (((Below.refl _ w).alloc (Nat.le_refl _) _).trans (hb.mono (by simp)))
      clear hb
      go_wp2_with fail
      refine (in_at p 0 L false (by simp; omega) _).mono ?_
      rintro e w2 ⟨rfl, rfl⟩
      go_wp2
      go_ret2
      exact ⟨ret_ib3 HX.out.symm HO.out.symm, HB.out⟩

end Go.Proofs.Ythokkdipbckolaa
