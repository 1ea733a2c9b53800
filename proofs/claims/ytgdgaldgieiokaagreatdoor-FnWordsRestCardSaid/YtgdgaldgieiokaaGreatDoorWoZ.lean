/- Words: WordsBefore, both sides. -/
import Derived.Test.YtgdgaldgieiokaaGreatDoorWoY
namespace Go.Proofs.YtgdgaldgieiokaaGreatDoor
open Go.RowKit

/-- the words that become it in a step -/
def bfW (l : List UInt8) : List (List UInt8) := (allW (l.count 108) (l.count 114)).filter fun v => decide (stp v = l)
def bfOk (l : List UInt8) : Bool := okW l && decide (l.length ≤ 10)
def lstW (ok : Bool) (l : List (List UInt8)) : List (List UInt8) := if ok then l else []
theorem mkB_inj {a b : List UInt8} (h : mkB a = mkB b) : a = b := by
  have : (mkB a).data.toList = (mkB b).data.toList := by rw [h]
  exact this
theorem mkB_beq (a b : List UInt8) : ((mkB a).toList == (mkB b).toList) = decide (a = b) := by
  rw [Lib.toList_data, Lib.toList_data, mkB_data, mkB_data]
  by_cases h : a = b
  · subst h; simp
  · rw [decide_eq_false h, beq_eq_false_iff_ne]; exact h
theorem filter_take {Y : List (List UInt8)} {k : Nat} {x : List UInt8} (f : List UInt8 → Bool) (h : Y[k]? = some x) : (Y.take (k + 1)).filter f = (Y.take k).filter f ++ (if f x then [x] else []) := by
  rw [List.take_add_one, h, List.filter_append]
  congr 1
  cases hf : f x
  · simp [hf]
  · simp [hf]
theorem bf_len (l : List UInt8) (h : okW l = true) : (bfW l).length ≤ 16384 := by
  have h14 := okW_len h
  have ha : l.all isLr = true := by unfold okW at h; rw [Bool.and_eq_true] at h; exact h.2
  have h1 := count_lr l ha
  have h2 := List.length_filter_le (fun v => decide (stp v = l)) (allW (l.count 108) (l.count 114))
  have h3 := all_len_le (a := l.count 108) (b := l.count 114) (by omega)
  unfold bfW
  omega

set_option maxHeartbeats 4000000 in
set_option maxRecDepth 100000 in
theorem specWordsBefore_any (l : List UInt8) (hl : l.length ≤ 1048576) (w : World) :
    Calls Tryz.prog 27 #[.string (mkB l)] w fun e w' => ∃ A n c, e = .returned (.tuple #[.slice A n c, .bool (bfOk l)]) ∧ n = (wordsL (lstW (bfOk l) (bfW l))).length ∧ SlOwn strS w' w.heap.size 9 (.slice A n c) (wordsL (lstW (bfOk l) (bfW l))) ∧ Below w.heap.size w w' := by
  have HG := Lib.hid (fun W => woGood_any (mkB l) hl W)
  rw [mkB_data] at HG
  have hz : (mkB l).size = l.length := rfl
  obtain ⟨i0, hi, hz0, hz1, hz2⟩ := info_parts strInfo
  unfold bfOk
  cases hok : okW l with
  | false =>
    rw [hok] at HG
    go_enter Tryz.func27, Tryz.ntmps27
    go_wp2_with fail
    refine (HG.out _).mono ?_
    rintro e w1 ⟨rfl, rfl⟩
    go_wp2
    go_ret2
    exact ⟨none, 0, 0, rfl, rfl, SlOwn.nil strS _ _ _, Below.refl _ _⟩
  | true =>
    have h14 := okW_len hok
    have ha : l.all isLr = true := by have h := hok; unfold okW at h; rw [Bool.and_eq_true] at h; exact h.2
    have hcl := count_lr l ha
    have hbl := bf_len l hok
    rw [hok] at HG
    by_cases h10 : l.length ≤ 10
    · rw [decide_eq_true h10]
      have n10 : ¬ (10 : Int) < l.length := by omega
      obtain ⟨f, hf⟩ : ∃ f : List UInt8 → Bool, f = fun v => decide (stp v = l) := ⟨_, rfl⟩
      have HBF : Hid (bfW l = (allW (l.count 108) (l.count 114)).filter f) := Lib.hid (by rw [hf]; rfl)
      have HFX : Hid (∀ v, f v = decide (stp v = l)) := Lib.hid (fun v => by rw [hf])
      have HC1 : Hid (∀ W, Calls Tryz.prog 38 #[.string (mkB l), .int .u8 108] W fun e w' => e = .returned (.int .i64 (l.count 108 : Nat)) ∧ w' = W) := Lib.hid fun W => woCount_any l 108 (by omega) W
      have HC2 : Hid (∀ W, Calls Tryz.prog 38 #[.string (mkB l), .int .u8 114] W fun e w' => e = .returned (.int .i64 (l.count 114 : Nat)) ∧ w' = W) := Lib.hid fun W => woCount_any l 114 (by omega) W
      have c1 := List.count_le_length (a := (108 : UInt8)) (l := l)
      have c2 := List.count_le_length (a := (114 : UInt8)) (l := l)
      generalize l.count 108 = a at *
      generalize l.count 114 = b at *
      have HW := Lib.hid (fun W => woAll_any a b (by omega) W)
      have HT16 : Hid ((allW a b).length ≤ 16384) := Lib.hid (all_len_le (by omega))
      clear hf hok ha
      go_enter Tryz.func27, Tryz.ntmps27
      go_wp2_with fail
      refine (HG.out _).mono ?_
      rintro e w1 ⟨rfl, rfl⟩
      have HB1 := Lib.hid (Below.refl w1.heap.size w1)
      have hs1 := Nat.le_refl w1.heap.size

      go_wp2_with fail
      refine (HC1.out _).mono ?_
      rintro e w12 ⟨rfl, rfl⟩
      go_wp2_with fail
      refine (HC2.out _).mono ?_
      rintro e w13 ⟨rfl, rfl⟩
      go_wp2_with fail
      refine (HW.out _).mono ?_
      rintro e w2 ⟨A2, n2, c2', rfl, rfl, ho, hb⟩
      have HA := Lib.hid ho.sl
      have HB := Lib.hid (HB1.out.trans (hb.mono hs1))

      have hs2 := HB.out.size
      clear ho hb
      obtain ⟨T, hT⟩ : ∃ T, T = (allW a b).length := ⟨_, rfl⟩
      have hTb : T ≤ 16384 := by rw [hT]; exact HT16.out
      have HT := Lib.hid hT
      rw [← hT]
      clear hT
      go_wp2
      go_loopw [4, 6, 21] (fun v _ i wr => ∃ (k n : Nat) (A : Option Addr) (c : Nat), k ≤ T ∧ i = .int .i64 k ∧ n = (((allW a b).take k).filter f).length ∧ n ≤ k ∧ v = .slice A n c ∧ SlOwn strS wr w2.heap.size 9 (.slice A n c) (wordsL (((allW a b).take k).filter f)) ∧ Below w2.heap.size w2 wr)
        (fun _ _ i _ => T - (intOf i).toNat)
      case atStart => exact ⟨0, 0, none, 0, Nat.zero_le _, rfl, by simp, Nat.le_refl _, rfl, by rw [List.take_zero]; exact SlOwn.nil strS _ _ _, Below.refl _ _⟩
      case round =>
        obtain ⟨k, n, A, c, hk, rfl, hn, hnk, rfl, hown, hbw⟩ := hrel
        have HN := Lib.hid hn
        have HO := Lib.hid hown
        have HBW := Lib.hid hbw
        have HAr := Lib.hid (HA.out.below hbw)

        have hsw := hbw.size
        clear hn hown hbw
        by_cases hlt : k < T
        · obtain ⟨p, hp⟩ : ∃ p, (allW a b)[k]? = some p := ⟨_, List.getElem?_eq_getElem (by rw [← HT.out]; exact hlt)⟩
          obtain ⟨bb, off, hAe, hlt2, hc⟩ := HAr.out.str_at (k := k) (by rw [wordsL_len, ← HT.out]; exact hlt)
          subst hAe
          have a0 := hc k _ (wordsL_at hp)
          have hpl := (allW_at hp).2.2.1
          have HST := Lib.hid (fun W => woStep_any p (by omega) W)
          have hft := filter_take f hp
          have hq := mkB_beq (stp p) l
          rw [← HFX.out p] at hq
          have HP := Lib.hid hp
          clear hc hp hpl
          cases hfp : f p with
          | true =>
            rw [hfp] at hft hq
            have HS : Hid (((allW a b).take (k + 1)).filter f = ((allW a b).take k).filter f ++ [p]) := Lib.hid (by rw [hft]; rfl)
            clear hft
            go_wp2_with fail
            refine (HST.out _).mono ?_
            rintro e w5 ⟨rfl, hw5⟩
            have hb5 : Below wr.heap.size wr w5 := by rw [hw5]; exact Below.refl _ _
            have hs5 := hb5.size
            have HO5 := Lib.hid (HO.out.below hb5)
            have HB5 := Lib.hid (HBW.out.trans (hb5.mono hsw))
            clear hb5 hw5
            go_wp2_with (at_builtin; go_must (refine wpList_append_slsv strS _ rfl _ _ 36 rfl w2.heap.size 9 i0 _ 16 Tryz.underlying36 hi hz0 hz1 hz2 rfl (by decide) (.slice A n c) (wordsL (((allW a b).take k).filter f)) rfl (HO5.out.allocS _) _ 1 1 [mkB p] rfl rfl (slAt_oneS (heap_new rfl)) (by rw [wordsL_len, ← HN.out, List.length_singleton]; omega) (by simp; omega) ?_); intro A8 n8 c8 w8 hn8 ho8 hb8; obtain rfl : n8 = n + 1 := (by rw [hn8, List.length_append, wordsL_len, ← HN.out]; rfl); have HO8 := Lib.hid ho8; have HB8 : Hid (Below w2.heap.size w5 w8) := Lib.hid (((Below.refl w2.heap.size w5).alloc (by omega) _).trans hb8); clear hn8 ho8 hb8)
            go_roundw
            case rel => exact ⟨k + 1, n + 1, A8, c8, by omega, by go_num, by rw [HS.out, List.length_append, ← HN.out]; rfl, by omega, rfl, by rw [HS.out, wordsL_snoc]; exact HO8.out, HB5.out.trans HB8.out⟩
            case measure => simp [intOf]; omega
          | false =>
            rw [hfp] at hft hq
            have HS : Hid (((allW a b).take (k + 1)).filter f = ((allW a b).take k).filter f) := Lib.hid (by rw [hft]; simp)
            clear hft
            go_wp2_with fail
            refine (HST.out _).mono ?_
            rintro e w5 ⟨rfl, hw5⟩
            have hb5 : Below wr.heap.size wr w5 := by rw [hw5]; exact Below.refl _ _
            have HO5 := Lib.hid (HO.out.below hb5)
            have HB5 := Lib.hid (HBW.out.trans (hb5.mono hsw))
            clear hb5 hw5
            go_wp2
            go_roundw
            case rel => exact ⟨k + 1, n, A, c, by omega, by go_num, by rw [HS.out, ← HN.out], by omega, rfl, by rw [HS.out]; exact HO5.out, HB5.out⟩
            case measure => simp [intOf]; omega
        · have HKE : Hid (k = T) := Lib.hid (by omega)
          have HALL : Hid (((allW a b).take k).filter f = bfW l) := Lib.hid (by rw [HBF.out, HKE.out, HT.out, List.take_length])
          rw [HALL.out] at HN HO
          go_wp2
          go_ret2
          exact ⟨A, n, c, rfl, by rw [wordsL_len]; exact HN.out, own_baseS HO.out hs2, HB.out.trans (HBW.out.mono hs2)⟩
    · rw [decide_eq_false h10]
      have n10 : (10 : Int) < l.length := by omega
      go_enter Tryz.func27, Tryz.ntmps27
      go_wp2_with fail
      refine (HG.out _).mono ?_
      rintro e w1 ⟨rfl, rfl⟩
      go_wp2
      go_ret2
      exact ⟨none, 0, 0, rfl, rfl, SlOwn.nil strS _ _ _, Below.refl _ _⟩

set_option maxHeartbeats 4000000 in
set_option maxRecDepth 100000 in
theorem implWordsBefore_any (l : List UInt8) (hl : l.length ≤ 1048576) (w : World) (hM : MaxL w) :
    Calls Tryz.prog 25 #[.string (mkB l)] w fun e w' => ∃ A n c, e = .returned (.tuple #[.slice A n c, .bool (bfOk l)]) ∧ n = (wordsL (lstW (bfOk l) (bfW l))).length ∧ SlOwn strS w' w.heap.size 9 (.slice A n c) (wordsL (lstW (bfOk l) (bfW l))) ∧ Below w.heap.size w w' := by
  have HM := Lib.hid hM
  clear hM
  have HG := Lib.hid (fun W => isWord_any (mkB l) hl W)
  rw [mkB_data] at HG
  have hz : (mkB l).size = l.length := rfl
  obtain ⟨i0, hi, hz0, hz1, hz2⟩ := info_parts strInfo
  unfold bfOk
  cases hok : okW l with
  | false =>
    rw [hok] at HG
    go_enter Tryz.func25, Tryz.ntmps25
    go_wp2_with fail
    refine (HG.out _).mono ?_
    rintro e w1 ⟨rfl, hb1⟩
    go_wp2
    go_ret2
    exact ⟨none, 0, 0, rfl, rfl, SlOwn.nil strS _ _ _, hb1⟩
  | true =>
    have h14 := okW_len hok
    have ha : l.all isLr = true := by have h := hok; unfold okW at h; rw [Bool.and_eq_true] at h; exact h.2
    have hcl := count_lr l ha
    have hbl := bf_len l hok
    rw [hok] at HG
    by_cases h10 : l.length ≤ 10
    · rw [decide_eq_true h10]
      have n10 : ¬ (10 : Int) < l.length := by omega
      obtain ⟨f, hf⟩ : ∃ f : List UInt8 → Bool, f = fun v => decide (stp v = l) := ⟨_, rfl⟩
      have HBF : Hid (bfW l = (allW (l.count 108) (l.count 114)).filter f) := Lib.hid (by rw [hf]; rfl)
      have HFX : Hid (∀ v, f v = decide (stp v = l)) := Lib.hid (fun v => by rw [hf])
      have HC := Lib.hid (fun W => countSigns_any l W)
      have c1 := List.count_le_length (a := (108 : UInt8)) (l := l)
      have c2 := List.count_le_length (a := (114 : UInt8)) (l := l)
      generalize l.count 108 = a at *
      generalize l.count 114 = b at *
      have HW := Lib.hid (fun W => wordsWith_any a b (by omega) W)
      have HT16 : Hid ((allW a b).length ≤ 16384) := Lib.hid (all_len_le (by omega))
      clear hf hok ha
      go_enter Tryz.func25, Tryz.ntmps25
      go_wp2_with fail
      refine (HG.out _).mono ?_
      rintro e w1 ⟨rfl, hb1⟩
      have HB1 := Lib.hid hb1
      have hs1 := hb1.size
      clear hb1
      have HM1 := Lib.hid (HM.out.below HB1.out)
      go_wp2_with fail
      refine (HC.out _).mono ?_
      rintro e w12 ⟨rfl, rfl⟩
      go_wp2_with fail
      refine (HW.out _).mono ?_
      rintro e w2 ⟨A2, n2, c2', rfl, rfl, ho, hb⟩
      have HA := Lib.hid ho.sl
      have HB := Lib.hid (HB1.out.trans (hb.mono hs1))
      have HM2 := Lib.hid (HM1.out.below hb)
      have hs2 := HB.out.size
      clear ho hb
      obtain ⟨T, hT⟩ : ∃ T, T = (allW a b).length := ⟨_, rfl⟩
      have hTb : T ≤ 16384 := by rw [hT]; exact HT16.out
      have HT := Lib.hid hT
      rw [← hT]
      clear hT
      go_wp2
      go_loopw [4, 6, 21] (fun v _ i wr => ∃ (k n : Nat) (A : Option Addr) (c : Nat), k ≤ T ∧ i = .int .i64 k ∧ n = (((allW a b).take k).filter f).length ∧ n ≤ k ∧ v = .slice A n c ∧ SlOwn strS wr w2.heap.size 9 (.slice A n c) (wordsL (((allW a b).take k).filter f)) ∧ Below w2.heap.size w2 wr)
        (fun _ _ i _ => T - (intOf i).toNat)
      case atStart => exact ⟨0, 0, none, 0, Nat.zero_le _, rfl, by simp, Nat.le_refl _, rfl, by rw [List.take_zero]; exact SlOwn.nil strS _ _ _, Below.refl _ _⟩
      case round =>
        obtain ⟨k, n, A, c, hk, rfl, hn, hnk, rfl, hown, hbw⟩ := hrel
        have HN := Lib.hid hn
        have HO := Lib.hid hown
        have HBW := Lib.hid hbw
        have HAr := Lib.hid (HA.out.below hbw)
        have HMr := Lib.hid (HM2.out.below hbw)
        have hsw := hbw.size
        clear hn hown hbw
        by_cases hlt : k < T
        · obtain ⟨p, hp⟩ : ∃ p, (allW a b)[k]? = some p := ⟨_, List.getElem?_eq_getElem (by rw [← HT.out]; exact hlt)⟩
          obtain ⟨bb, off, hAe, hlt2, hc⟩ := HAr.out.str_at (k := k) (by rw [wordsL_len, ← HT.out]; exact hlt)
          subst hAe
          have a0 := hc k _ (wordsL_at hp)
          have hpl := (allW_at hp).2.2.1
          have HST := Lib.hid (fun W h => stepOf_any p (by omega) W h)
          have hft := filter_take f hp
          have hq := mkB_beq (stp p) l
          rw [← HFX.out p] at hq
          have HP := Lib.hid hp
          clear hc hp hpl
          cases hfp : f p with
          | true =>
            rw [hfp] at hft hq
            have HS : Hid (((allW a b).take (k + 1)).filter f = ((allW a b).take k).filter f ++ [p]) := Lib.hid (by rw [hft]; rfl)
            clear hft
            go_wp2_with fail
            refine (HST.out _ HMr.out).mono ?_
            rintro e w5 ⟨rfl, hb5⟩

            have hs5 := hb5.size
            have HO5 := Lib.hid (HO.out.below hb5)
            have HB5 := Lib.hid (HBW.out.trans (hb5.mono hsw))
            clear hb5
            go_wp2_with (at_builtin; go_must (refine wpList_append_slsv strS _ rfl _ _ 36 rfl w2.heap.size 9 i0 _ 16 Tryz.underlying36 hi hz0 hz1 hz2 rfl (by decide) (.slice A n c) (wordsL (((allW a b).take k).filter f)) rfl (HO5.out.allocS _) _ 1 1 [mkB p] rfl rfl (slAt_oneS (heap_new rfl)) (by rw [wordsL_len, ← HN.out, List.length_singleton]; omega) (by simp; omega) ?_); intro A8 n8 c8 w8 hn8 ho8 hb8; obtain rfl : n8 = n + 1 := (by rw [hn8, List.length_append, wordsL_len, ← HN.out]; rfl); have HO8 := Lib.hid ho8; have HB8 : Hid (Below w2.heap.size w5 w8) := Lib.hid (((Below.refl w2.heap.size w5).alloc (by omega) _).trans hb8); clear hn8 ho8 hb8)
            go_roundw
            case rel => exact ⟨k + 1, n + 1, A8, c8, by omega, by go_num, by rw [HS.out, List.length_append, ← HN.out]; rfl, by omega, rfl, by rw [HS.out, wordsL_snoc]; exact HO8.out, HB5.out.trans HB8.out⟩
            case measure => simp [intOf]; omega
          | false =>
            rw [hfp] at hft hq
            have HS : Hid (((allW a b).take (k + 1)).filter f = ((allW a b).take k).filter f) := Lib.hid (by rw [hft]; simp)
            clear hft
            go_wp2_with fail
            refine (HST.out _ HMr.out).mono ?_
            rintro e w5 ⟨rfl, hb5⟩

            have HO5 := Lib.hid (HO.out.below hb5)
            have HB5 := Lib.hid (HBW.out.trans (hb5.mono hsw))
            clear hb5
            go_wp2
            go_roundw
            case rel => exact ⟨k + 1, n, A, c, by omega, by go_num, by rw [HS.out, ← HN.out], by omega, rfl, by rw [HS.out]; exact HO5.out, HB5.out⟩
            case measure => simp [intOf]; omega
        · have HKE : Hid (k = T) := Lib.hid (by omega)
          have HALL : Hid (((allW a b).take k).filter f = bfW l) := Lib.hid (by rw [HBF.out, HKE.out, HT.out, List.take_length])
          rw [HALL.out] at HN HO
          go_wp2
          go_ret2
          exact ⟨A, n, c, rfl, by rw [wordsL_len]; exact HN.out, own_baseS HO.out hs2, HB.out.trans (HBW.out.mono hs2)⟩
    · rw [decide_eq_false h10]
      have n10 : (10 : Int) < l.length := by omega
      go_enter Tryz.func25, Tryz.ntmps25
      go_wp2_with fail
      refine (HG.out _).mono ?_
      rintro e w1 ⟨rfl, hb1⟩
      go_wp2
      go_ret2
      exact ⟨none, 0, 0, rfl, rfl, SlOwn.nil strS _ _ _, hb1⟩

end Go.Proofs.YtgdgaldgieiokaaGreatDoor
