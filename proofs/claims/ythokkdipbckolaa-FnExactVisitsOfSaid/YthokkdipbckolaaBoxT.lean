/- BoxPeriod on both sides. -/
import Derived.Test.YthokkdipbckolaaBoxG
import Derived.Test.YthokkdipbckolaaSame
namespace Go.Proofs.Ythokkdipbckolaa
open Go.RowKit

theorem stepRun_any (B b ab gb ca cg : Nat) (L : Int) (l : List (Int × Int)) (s : Nat) (w : World) (hg : boxB L l = true) (hs : s ≤ 4000) (h : BxAt w b ab 0 gb 0 l.length ca cg L (runB L l s).1 (leB L l s) (riB L l s) (runB L l s).2 (knB L l s)) (hB : B ≤ b ∧ B ≤ ab ∧ B ≤ gb) :
    Calls Try.prog 56 #[.pointer (some ⟨b, 0, none⟩)] w fun e w' => ∃ v, e = .returned v ∧ BxAt w' b ab 0 gb 0 l.length ca cg L (runB L l (s + 1)).1 (leB L l (s + 1)) (riB L l (s + 1)) (runB L l (s + 1)).2 (knB L l (s + 1)) ∧ Below B w w' := by
  have hl := boxB_len hg
  have h1 := runB_le (box_of hg) hl.2.2.2 s
  have h2 := leB_le (box_of hg) hl.2.2.2 s
  have h3 := riB_le (box_of hg) hl.2.2.2 s
  exact stepBox_any B b ab 0 gb 0 l.length ca cg L (runB L l s).1 (leB L l s) (riB L l s) (runB L l s).2 (knB L l s) w h (fun k x hx => runB_wall (box_of hg) s k x hx) (fun k g hk => by have := knB_le L l s k g hk; omega) ⟨hl.1, hl.2.1⟩ hl.2.2.2 (by omega) hB

theorem perB_eq (L : Int) (l : List (Int × Int)) (k : Nat) (hy : bxA L ((2 * (k + 1) : Nat) : Int) l = l) : ∀ (n k0 : Nat), k0 ≤ k → k < k0 + n → (∀ j, k0 ≤ j → j < k → ¬ bxA L ((2 * (j + 1) : Nat) : Int) l = l) → perB L l n k0 = k
  | 0, k0, h1, h2, _ => by omega
  | n + 1, k0, h1, h2, hn => by
    unfold perB
    by_cases h : k0 = k
    · subst h
      rw [if_pos hy]
    · rw [if_neg (hn k0 (Nat.le_refl _) (by omega))]
      exact perB_eq L l k hy n (k0 + 1) (by omega) (by omega) (fun j h3 h4 => hn j (by omega) h4)
def pdV (L : Int) (l : List (Int × Int)) : Int := if boxB L l then ((2 * (perB L l L.toNat 0 + 1) : Nat) : Int) else 0
theorem pdV_at {L : Int} {l : List (Int × Int)} (hg : boxB L l = true) (k : Nat) (hk : (k : Int) < L) (hy : bxA L ((2 * (k + 1) : Nat) : Int) l = l) (hn : ∀ j, j < k → ¬ bxA L ((2 * (j + 1) : Nat) : Int) l = l) : pdV L l = ((2 * (k + 1) : Nat) : Int) := by
  unfold pdV
  rw [hg, if_pos rfl, perB_eq L l k hy L.toNat 0 (Nat.zero_le _) (by omega) (fun j _ h => hn j h)]
theorem round_same {L : Int} {l : List (Int × Int)} (hg : boxB L l = true) (k : Nat) (hk : (k : Int) + 1 = L) : bxA L ((2 * (k + 1) : Nat) : Int) l = l := by
  have h := bxA_round (box_of hg)
  rwa [show ((2 * (k + 1) : Nat) : Int) = 2 * L by omega]
theorem ret_ib3 {a b : Int} {x y : Bool} (h : a = b) (h3 : x = y) : Ending.returned (.tuple #[.int .i64 a, .bool x]) = .returned (.tuple #[.int .i64 b, .bool y]) := by rw [h, h3]

set_option maxRecDepth 100000 in
set_option maxHeartbeats 4000000 in
theorem specBoxPeriod_any (L : Int) (A : Option Addr) (c : Nat) (l : List (Int × Int)) (w : World) (hA : AntsAt w A l) :
    Calls Try.prog 27 #[.agg #[.int .i64 L, .slice A l.length c]] w fun e w' => e = .returned (.tuple #[.int .i64 (pdV L l), .bool (boxB L l)]) ∧ Below w.heap.size w w' := by
  have HA := Lib.hid (hA.alloc (Obj.cells #[Value.int IntKind.i64 L, Value.slice A l.length c] 29))
  clear hA
  cases hg : boxB L l with
  | false =>
    have HX : Hid (pdV L l = 0) := by show _ = _; unfold pdV; rw [hg]; rfl
    have HG : Hid (∀ w, AntsAt w A l → Calls Try.prog 39 #[.agg #[.int .i64 L, .slice A l.length c]] w fun e w' => e = .returned (.bool false) ∧ Below w.heap.size w w') := fun w h => by rw [← hg]; exact waGood_any L A c l w h
    clear hg
    go_enter Try.func27, Try.ntmps27
    go_wp2_with fail
    refine (HG.out _ HA.out).mono ?_
    rintro e w1 ⟨rfl, hb⟩
    go_wp2
    go_ret2
    exact ⟨ret_ib3 HX.out.symm rfl, ((Below.refl _ _).alloc (Nat.le_refl _) _).trans (hb.mono (by simp))⟩
  | true =>
    have HG : Hid (∀ w, AntsAt w A l → Calls Try.prog 39 #[.agg #[.int .i64 L, .slice A l.length c]] w fun e w' => e = .returned (.bool true) ∧ Below w.heap.size w w') := fun w h => by rw [← hg]; exact waGood_any L A c l w h
    have hl := boxB_len hg
    have HST : Hid (∀ w, AntsAt w A l → Calls Try.prog 55 #[.agg #[.int .i64 L, .slice A l.length c]] w fun e w' => ∃ b ab gb ca cg, e = .returned (.pointer (some ⟨b, 0, none⟩)) ∧ BxAt w' b ab 0 gb 0 l.length ca cg L l 0 0 0 (List.replicate l.length 0) ∧ (w.heap.size ≤ b ∧ w.heap.size ≤ ab ∧ w.heap.size ≤ gb) ∧ Below w.heap.size w w') := fun w h => waStart_any L A c l w hg h
    have HSP : Hid (∀ (B b ab gb ca cg s : Nat) (w : World), s ≤ 4000 → BxAt w b ab 0 gb 0 l.length ca cg L (runB L l s).1 (leB L l s) (riB L l s) (runB L l s).2 (knB L l s) → (B ≤ b ∧ B ≤ ab ∧ B ≤ gb) → Calls Try.prog 56 #[.pointer (some ⟨b, 0, none⟩)] w fun e w' => ∃ v, e = .returned v ∧ BxAt w' b ab 0 gb 0 l.length ca cg L (runB L l (s + 1)).1 (leB L l (s + 1)) (riB L l (s + 1)) (runB L l (s + 1)).2 (knB L l (s + 1)) ∧ Below B w w') := fun B b ab gb ca cg s w h1 h2 h3 => stepRun_any B b ab gb ca cg L l s w hg h1 h2 h3
    have HRB : Hid (∀ t : Nat, (runB L l t).1 = bxA L t l) := fun t => runB_bxA (box_of hg) t
    have HLN : Hid (∀ t : Int, (bxA L t l).length = l.length) := fun t => bxA_len L t l
    have HPV : Hid (∀ k : Nat, (k : Int) < L → bxA L ((2 * (k + 1) : Nat) : Int) l = l → (∀ j, j < k → ¬ bxA L ((2 * (j + 1) : Nat) : Int) l = l) → pdV L l = ((2 * (k + 1) : Nat) : Int)) := fun k h1 h2 h3 => pdV_at hg k h1 h2 h3
    have HRS : Hid (∀ k : Nat, (k : Int) + 1 = L → bxA L ((2 * (k + 1) : Nat) : Int) l = l) := fun k h => round_same hg k h
    clear hg
    go_enter Try.func27, Try.ntmps27
    go_wp2_with fail
    refine (HG.out _ HA.out).mono ?_
    rintro e w1 ⟨rfl, hb⟩
    have c0 : w1.cell? ⟨w.heap.size, 0, none⟩ = some (.int .i64 L) := by rw [hb.cell (p := ⟨w.heap.size, 0, none⟩) (by simp)]; simp [go_sem]
    have c1 : w1.cell? ⟨w.heap.size, 1, none⟩ = some (.slice A l.length c) := by rw [hb.cell (p := ⟨w.heap.size, 1, none⟩) (by simp)]; simp [go_sem]
    have HA1 := Lib.hid (HA.out.below hb)
    have HB := Lib.hid (((Below.refl _ w).alloc (Nat.le_refl _) _).trans (hb.mono (by simp)))
    clear hb
    go_wp2_with fail
    refine (HST.out _ HA1.out).mono ?_
    rintro e w2 ⟨b, ab, gb, ca, cg, rfl, hr, hge, hb⟩
    have HR := Lib.hid hr
    have HGE := Lib.hid hge
    have HC : Hid (w1.cell? ⟨w.heap.size, 0, none⟩ = some (.int .i64 L) ∧ w1.cell? ⟨w.heap.size, 1, none⟩ = some (.slice A l.length c)) := ⟨c0, c1⟩
    have HB2 := Lib.hid hb
    clear hr hge hb c0 c1
    go_wp2
    go_loopw [5] (fun v wr => ∃ k : Nat, (k : Int) < L ∧ v = .int .i64 ((2 * (k + 1) : Nat) : Int) ∧ BxAt wr b ab 0 gb 0 l.length ca cg L (runB L l (2 * k)).1 (leB L l (2 * k)) (riB L l (2 * k)) (runB L l (2 * k)).2 (knB L l (2 * k)) ∧ Below w1.heap.size w1 wr ∧ ∀ j, j < k → ¬ bxA L ((2 * (j + 1) : Nat) : Int) l = l)
      (fun v _ => 2 * L.toNat - (intOf v).toNat)
    case atStart => exact ⟨0, by omega, rfl, HR.out, HB2.out, fun j h => absurd h (Nat.not_lt_zero j)⟩
    case round =>
      obtain ⟨k, hk, rfl, hra, hbr, hno⟩ := hrel
      obtain ⟨W1, rfl⟩ : ∃ W, W = wr := ⟨_, rfl⟩
      have HRA := Lib.hid hra
      have HBR := Lib.hid hbr
      have HNO := Lib.hid hno
      have c0 := Below.cell_some hbr HC.out.1
      have hw2L : IntKind.i64.wrap (2 * L) = 2 * L := IntWalk.i64_in _ (by omega)
      clear hra hbr hno
      obtain ⟨T, hT⟩ : ∃ T : Nat, T = 2 * (k + 1) := ⟨_, rfl⟩
      have HTT := Lib.hid hT
      have hTL : (T : Int) ≤ 2 * L := by omega
      have hT0 : 2 ≤ T := by omega
      rw [← hT]
      by_cases hlt : (k : Int) + 1 < L
      · have hd : decide ((T : Int) < 2 * L) = true := by simp; omega
        have htl : (T : Int) < 2 * L := by omega
        have hwT : IntKind.i64.wrap ((T : Int) + 2) = ((2 * (k + 1 + 1) : Nat) : Int) := by rw [show (T : Int) + 2 = ((2 * (k + 1 + 1) : Nat) : Int) by omega]; exact IntWalk.i64_in _ (by omega)
        clear hT
        go_wp2_with fail
        refine (HSP.out w1.heap.size b ab gb ca cg (2 * k) _ (by omega) HRA.out HGE.out).mono ?_
        rintro e W2 ⟨v, rfl, hr2, hb2⟩
        have HR2 := Lib.hid hr2
        have HB3 := Lib.hid (HBR.out.trans hb2)
        clear hr2 hb2 c0
        go_wp2_with fail
        refine (HSP.out w1.heap.size b ab gb ca cg (2 * k + 1) _ (by omega) HR2.out HGE.out).mono ?_
        rintro e W3 ⟨v2, rfl, hr3, hb3⟩
        have HB4 := Lib.hid (HB3.out.trans hb3)
        have ho := hr3.own
        have hls : (runB L l (2 * k + 1 + 1)).1 = bxA L (T : Int) l := by rw [HRB.out, HTT.out]; rfl
        rw [hls] at ho
        have q0 := Ext.cell ho.2.1
        have q1 := Ext.cell (Below.cell_some HB4.out HC.out.2)
        obtain ⟨r, hr⟩ : ∃ r, r = decide (bxA L (T : Int) l = l) := ⟨_, rfl⟩
        have HRR := Lib.hid hr
        have HSA : Hid (∀ x : Ext W3, Calls Try.prog 57 #[.slice (some ⟨ab, 0, none⟩) l.length ca, .slice A l.length c] x.w fun e w' => e = .returned (.bool r) ∧ Below x.w.heap.size x.w w') := fun x => by
          rw [hr]
          exact ciSame_any _ _ _ _ _ _ _ _ (HLN.out _) rfl hl.2.2.2 (ho.2.2.ants.below x.h) ((HA1.out.below HB4.out).below x.h)
        have HR3 : Hid (BxAt W3 b ab 0 gb 0 l.length ca cg L (runB L l (2 * (k + 1))).1 (leB L l (2 * (k + 1))) (riB L l (2 * (k + 1))) (runB L l (2 * (k + 1))).2 (knB L l (2 * (k + 1)))) := hr3
        clear hr3 hb3 ho hls hr
        go_wp2
        refine wp_region_ext (by kernel_rfl) (by kernel_rfl) ?_
        repeat (first | go_big_quiet_skip | (go_big_quiet_want; go_big_quiet_op; first | go_big_quiet_on | (apply Exists.intro; refine ⟨fun _ => ?_, ?_⟩; (go_at_call 57; with_reducible exact Ext.call (HSA.out _)); go_big_quiet_on)))
        refine wpQuiet_nil ?_
        rintro _ ⟨z, rfl⟩
        have HB5 := Lib.hid (HB4.out.trans (z.h.mono HB4.out.size))
        have HR5 := Lib.hid (HR3.out.below z.h)
        clear q0 q1
        cases r with
        | true =>
          have hsm : bxA L (T : Int) l = l := of_decide_eq_true HRR.out.symm
          have HVV : Hid (pdV L l = (T : Int)) := by
            show _ = _
            rw [HTT.out]
            exact HPV.out k hk (by rw [← HTT.out]; exact hsm) HNO.out
          clear hsm
          go_wp2
          go_ret2
          exact ⟨ret_ib3 HVV.out.symm rfl, HB.out.trans (HB5.out.mono HB.out.size)⟩
        | false =>
          have hsm : ¬ bxA L (T : Int) l = l := of_decide_eq_false HRR.out.symm
          have HNK : Hid (∀ j, j < k + 1 → ¬ bxA L ((2 * (j + 1) : Nat) : Int) l = l) := fun j hj => by
            by_cases hjk : j = k
            · subst hjk
              rw [← HTT.out]
              exact hsm
            · exact HNO.out j (by omega)
          clear hsm
          go_wp2
          go_roundw
          case rel => exact ⟨k + 1, by omega, rfl, HR5.out, HB5.out, HNK.out⟩
          case measure => (have := HTT.out; simp [intOf]; omega)
      · have hke : (k : Int) + 1 = L := by omega
        have hd : decide ((T : Int) < 2 * L) = false := by simp; omega
        have hnl : ¬ (T : Int) < 2 * L := by omega
        have HVV : Hid (pdV L l = 2 * L) := by
          show _ = _
          rw [HPV.out k hk (HRS.out k hke) HNO.out]
          omega
        clear hT hke hlt
        go_wp2
        go_ret2
        exact ⟨ret_ib3 HVV.out.symm rfl, HB.out.trans (HBR.out.mono HB.out.size)⟩

set_option maxRecDepth 100000 in
set_option maxHeartbeats 4000000 in
theorem implBoxPeriod_any (L : Int) (A : Option Addr) (c : Nat) (l : List (Int × Int)) (w : World) (hA : AntsAt w A l) :
    Calls Try.prog 28 #[.agg #[.int .i64 L, .slice A l.length c]] w fun e w' => e = .returned (.tuple #[.int .i64 (pdV L l), .bool (boxB L l)]) ∧ Below w.heap.size w w' := by
  have HA := Lib.hid (hA.alloc (Obj.cells #[Value.int IntKind.i64 L, Value.slice A l.length c] 29))
  clear hA
  cases hg : boxB L l with
  | false =>
    have HX : Hid (pdV L l = 0) := by show _ = _; unfold pdV; rw [hg]; rfl
    have HG : Hid (∀ w, AntsAt w A l → Calls Try.prog 15 #[.agg #[.int .i64 L, .slice A l.length c]] w fun e w' => e = .returned (.bool false) ∧ Below w.heap.size w w') := fun w h => by rw [← hg]; exact isBox_any L A c l w h
    clear hg
    go_enter Try.func28, Try.ntmps28
    go_wp2_with fail
    refine (HG.out _ HA.out).mono ?_
    rintro e w1 ⟨rfl, hb⟩
    go_wp2
    go_ret2
    exact ⟨ret_ib3 HX.out.symm rfl, ((Below.refl _ _).alloc (Nat.le_refl _) _).trans (hb.mono (by simp))⟩
  | true =>
    have HG : Hid (∀ w, AntsAt w A l → Calls Try.prog 15 #[.agg #[.int .i64 L, .slice A l.length c]] w fun e w' => e = .returned (.bool true) ∧ Below w.heap.size w w') := fun w h => by rw [← hg]; exact isBox_any L A c l w h
    have hl := boxB_len hg
    have HBA : Hid (∀ (t : Int) (w : World), 0 ≤ t ∧ t ≤ 100000 → AntsAt w A l → Calls Try.prog 48 #[.agg #[.int .i64 L, .slice A l.length c], .int .i64 t] w fun e w' => ∃ A' c', e = .returned (.slice A' l.length c') ∧ SlOwn pairS w' w.heap.size 53 (.slice A' l.length c') (bxA L t l) ∧ Below w.heap.size w w') := fun t w h1 h2 => boxAnts_any L A c l t w (boxB_good hg) h1 h2
    have HLN : Hid (∀ t : Int, (bxA L t l).length = l.length) := fun t => bxA_len L t l
    have HPV : Hid (∀ k : Nat, (k : Int) < L → bxA L ((2 * (k + 1) : Nat) : Int) l = l → (∀ j, j < k → ¬ bxA L ((2 * (j + 1) : Nat) : Int) l = l) → pdV L l = ((2 * (k + 1) : Nat) : Int)) := fun k h1 h2 h3 => pdV_at hg k h1 h2 h3
    have HRS : Hid (∀ k : Nat, (k : Int) + 1 = L → bxA L ((2 * (k + 1) : Nat) : Int) l = l) := fun k h => round_same hg k h
    clear hg
    go_enter Try.func28, Try.ntmps28
    go_wp2_with fail
    refine (HG.out _ HA.out).mono ?_
    rintro e w1 ⟨rfl, hb⟩
    have c0 : w1.cell? ⟨w.heap.size, 0, none⟩ = some (.int .i64 L) := by rw [hb.cell (p := ⟨w.heap.size, 0, none⟩) (by simp)]; simp [go_sem]
    have c1 : w1.cell? ⟨w.heap.size, 1, none⟩ = some (.slice A l.length c) := by rw [hb.cell (p := ⟨w.heap.size, 1, none⟩) (by simp)]; simp [go_sem]
    have HA1 := Lib.hid (HA.out.below hb)
    have HB := Lib.hid (((Below.refl _ w).alloc (Nat.le_refl _) _).trans (hb.mono (by simp)))
    have HC : Hid (w1.cell? ⟨w.heap.size, 0, none⟩ = some (.int .i64 L) ∧ w1.cell? ⟨w.heap.size, 1, none⟩ = some (.slice A l.length c)) := ⟨c0, c1⟩
    clear hb c0 c1
    go_wp2
    go_loopw [4] (fun v wr => ∃ k : Nat, (k : Int) < L ∧ v = .int .i64 ((2 * (k + 1) : Nat) : Int) ∧ Below w1.heap.size w1 wr ∧ ∀ j, j < k → ¬ bxA L ((2 * (j + 1) : Nat) : Int) l = l)
      (fun v _ => 2 * L.toNat - (intOf v).toNat)
    case atStart => exact ⟨0, by omega, rfl, Below.refl _ _, fun j h => absurd h (Nat.not_lt_zero j)⟩
    case round =>
      obtain ⟨k, hk, rfl, hbr, hno⟩ := hrel
      obtain ⟨W1, rfl⟩ : ∃ W, W = wr := ⟨_, rfl⟩
      have HBR := Lib.hid hbr
      have HNO := Lib.hid hno
      have c0 := Below.cell_some hbr HC.out.1
      have c1 := Below.cell_some hbr HC.out.2
      have HAW := Lib.hid (HA1.out.below hbr)
      clear hbr hno
      obtain ⟨T, hT⟩ : ∃ T : Nat, T = 2 * (k + 1) := ⟨_, rfl⟩
      have HTT := Lib.hid hT
      have hTL : (T : Int) ≤ 2 * L := by omega
      rw [← hT]
      clear hT
      obtain ⟨r, hr⟩ : ∃ r, r = decide (bxA L (T : Int) l = l) := ⟨_, rfl⟩
      have HRR := Lib.hid hr
      have HK : Hid (∀ Q : Ending → World → Prop, (∀ A' c' w', SlOwn pairS w' W1.heap.size 53 (.slice A' l.length c') (bxA L (T : Int) l) → Below W1.heap.size W1 w' → Q (.returned (.slice A' l.length c')) w') → Calls Try.prog 48 #[.agg #[.int .i64 L, .slice A l.length c], .int .i64 (T : Int)] W1.drew Q) := fun Q hQ => by
        refine (HBA.out (T : Int) W1.drew ⟨by omega, by omega⟩ (HAW.out.below ((Below.refl _ _).drew))).mono ?_
        rintro e w' ⟨A', c', rfl, ho, hb⟩
        exact hQ A' c' w' ho (below_drew hb)
      have HEQ : Hid (∀ (A' : Option Addr) (c' : Nat) (W : World), SlOwn pairS W W1.heap.size 53 (.slice A' l.length c') (bxA L (T : Int) l) → Below W1.heap.size W1 W → Calls Try.prog 58 #[.slice A' l.length c', .slice A l.length c] W fun e w' => e = .returned (.bool r) ∧ Below W.heap.size W w') := fun A' c' W h1 h2 => by
        rw [hr]
        exact slicesEqual_any _ _ _ _ _ _ _ _ (HLN.out _) rfl hl.2.2.2 (antsOwn_iff.2 h1).ants (HAW.out.below h2)
      clear hr
      go_wp2
      go_region_held3 (fun w' => w'.cell? ⟨w.heap.size, 0, none⟩ = some (.int .i64 L) ∧ w'.cell? ⟨w.heap.size, 1, none⟩ = some (.slice A l.length c))
        (first | exact ⟨d0, d1⟩ | exact ⟨c0', c1'⟩ | go_keep)
        (first
          | (go_at_call 58; with_reducible refine HE4.out.mono ?_; rintro e w5 ⟨rfl, hb5⟩; have d0 := Below.cell_some hb5 c0'; have d1 := Below.cell_some hb5 c1'; have HB5 := Lib.hid (HB4.out.trans (hb5.mono HB4.out.size)); clear hb5)
          | (go_at_call 48; with_reducible refine HK.out _ ?_; intro A4 k4 w4 ho4 hb4; have c0' := Below.cell_some hb4 c0; have c1' := Below.cell_some hb4 c1; have HE4 := Lib.hid (HEQ.out A4 k4 w4 ho4 hb4); have HB4 := Lib.hid (HBR.out.trans (hb4.mono HBR.out.size)); clear ho4 hb4))
      all_goals (
        cases r with
        | true =>
          have HVV : Hid (pdV L l = (T : Int)) := by
            show _ = _
            rw [HTT.out]
            exact HPV.out k hk (by rw [← HTT.out]; exact of_decide_eq_true HRR.out.symm) HNO.out
          go_wp2
          go_ret2
          exact ⟨ret_ib3 HVV.out.symm rfl, HB.out.trans (HB5.out.mono HB.out.size)⟩
        | false =>
          have HNK : Hid (∀ j, j < k + 1 → ¬ bxA L ((2 * (j + 1) : Nat) : Int) l = l) := fun j hj => by
            by_cases hjk : j = k
            · subst hjk
              rw [← HTT.out]
              exact of_decide_eq_false HRR.out.symm
            · exact HNO.out j (by omega)
          have hkL : (k : Int) + 1 < L := by
            by_cases h : (k : Int) + 1 = L
            · exact absurd (HRS.out k h) (HNK.out k (by omega))
            · omega
          have hwT : IntKind.i64.wrap ((T : Int) + 2) = ((2 * (k + 1 + 1) : Nat) : Int) := by
            have := HTT.out
            rw [show (T : Int) + 2 = ((2 * (k + 1 + 1) : Nat) : Int) by omega]
            exact IntWalk.i64_in _ (by omega)
          go_wp2
          go_roundw
          case rel => exact ⟨k + 1, by omega, rfl, HB5.out, HNK.out⟩
          case measure => (have := HTT.out; simp [intOf]; omega))
end Go.Proofs.Ythokkdipbckolaa
