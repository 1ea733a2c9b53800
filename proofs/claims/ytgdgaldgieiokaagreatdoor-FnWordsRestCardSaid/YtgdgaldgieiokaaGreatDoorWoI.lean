/- Words, the program: the exported functions that take a text alone (and WordAfter). -/
import Derived.Test.YtgdgaldgieiokaaGreatDoorWoS
import Derived.Test.YtgdgaldgieiokaaGreatDoorWoL
import Derived.Lib.OthersKept
namespace Go.Proofs.YtgdgaldgieiokaaGreatDoor
open Go.RowKit

set_option maxHeartbeats 1000000 in
theorem implRestOf_any (l : List UInt8) (hl : l.length ≤ 1048576) (w : World) :
    Calls Tryz.prog 10 #[.string (mkB l)] w fun e w' => e = .returned (.tuple #[.string (strR (okW l) (rst (l.count 108) (l.count 114))), .bool (okW l)]) ∧ Below w.heap.size w w' := by
  have HG := Lib.hid (fun W => isWord_any (mkB l) hl W)
  rw [mkB_data] at HG
  cases hok : okW l with
  | false =>
    rw [hok] at HG
    go_enter Tryz.func10, Tryz.ntmps10
    go_wp2_with fail
    refine (HG.out _).mono ?_
    rintro e w1 ⟨rfl, hb1⟩
    go_wp2
    go_ret2
    exact ⟨rfl, hb1⟩
  | true =>
    have h14 := okW_len hok
    have c1 := List.count_le_length (a := (108 : UInt8)) (l := l)
    have c2 := List.count_le_length (a := (114 : UInt8)) (l := l)
    have HC := Lib.hid (fun W => countSigns_any l W)
    generalize l.count 108 = a at *
    generalize l.count 114 = b at *
    have HR := Lib.hid (fun W => restWith_any a b (by omega) (by omega) W)
    rw [hok] at HG
    go_enter Tryz.func10, Tryz.ntmps10
    go_wp2_with fail
    refine (HG.out _).mono ?_
    rintro e w1 ⟨rfl, hb1⟩
    go_wp2_with fail
    refine (HC.out _).mono ?_
    rintro e w2 ⟨rfl, rfl⟩
    go_wp2_with fail
    refine (HR.out _).mono ?_
    rintro e w3 ⟨rfl, hb3⟩
    go_wp2
    go_ret2
    exact ⟨rfl, hb1.trans (hb3.mono hb1.size)⟩

set_option maxHeartbeats 2000000 in
theorem implWordAfter_any (l : List UInt8) (t : Int) (hl : l.length ≤ 1048576) (w : World) (hM : MaxL w) :
    Calls Tryz.prog 23 #[.string (mkB l), .int .i64 t] w fun e w' => e = .returned (.tuple #[.string (strR (aftB l t) (stpN t.toNat l)), .bool (aftB l t)]) ∧ Below w.heap.size w w' := by
  have HG := Lib.hid (fun W => isWord_any (mkB l) hl W)
  have HM := Lib.hid hM
  clear hM
  rw [mkB_data] at HG
  unfold aftB
  cases hok : okW l with
  | false =>
    rw [hok] at HG
    go_enter Tryz.func23, Tryz.ntmps23
    go_wp2_with fail
    refine (HG.out _).mono ?_
    rintro e w1 ⟨rfl, hb1⟩
    go_wp2
    go_ret2
    exact ⟨rfl, hb1⟩
  | true =>
    have h14 := okW_len hok
    rw [hok] at HG
    by_cases ht0 : 0 ≤ t
    · by_cases ht1 : t ≤ 20
      · rw [decide_eq_true ht0, decide_eq_true ht1]
        have n0 : ¬ t < 0 := by omega
        have n1 : ¬ 20 < t := by omega
        go_enter Tryz.func23, Tryz.ntmps23
        go_wp2_with fail
        refine (HG.out _).mono ?_
        rintro e w1 ⟨rfl, hb1⟩
        have HB1 := Lib.hid hb1
        have HM1 := Lib.hid (HM.out.below hb1)
        clear hb1
        go_wp2
        go_loopw [0, 18] (fun s i wr => ∃ k : Nat, k ≤ t.toNat ∧ i = .int .i64 k ∧ s = .string (mkB (stpN k l)) ∧ Below w1.heap.size w1 wr)
          (fun _ i _ => t.toNat - (intOf i).toNat)
        case atStart => exact ⟨0, Nat.zero_le _, rfl, rfl, Below.refl _ _⟩
        case round =>
          obtain ⟨k, hk, rfl, rfl, hb⟩ := hrel
          have HB := Lib.hid hb
          have HMr := Lib.hid (HM1.out.below hb)
          have hs1 := hb.size
          clear hb
          have hkl := stpN_len k l
          have HS := Lib.hid (fun W h => stepOf_any (stpN k l) (by omega) W h)
          have HE := Lib.hid (stpN_succ k l)
          generalize hgp : stpN k l = p at *
          by_cases hlt : (k : Int) < t
          · go_wp2_with fail
            refine (HS.out _ HMr.out).mono ?_
            rintro e w3 ⟨rfl, hb3⟩
            have HB3 := Lib.hid (HB.out.trans (hb3.mono hs1))
            clear hb3
            go_wp2
            go_roundw
            case rel => exact ⟨k + 1, by omega, by go_num, by rw [HE.out], HB3.out⟩
            case measure => simp [intOf]; omega
          · have hke : Hid (k = t.toNat) := Lib.hid (by omega)
            go_wp2
            go_ret2
            exact ⟨by rw [← hke.out, hgp]; rfl, HB1.out.trans (HB.out.mono HB1.out.size)⟩
      · rw [decide_eq_false ht1, Bool.and_false]
        have n0 : ¬ t < 0 := by omega
        have n1 : 20 < t := by omega
        go_enter Tryz.func23, Tryz.ntmps23
        go_wp2_with fail
        refine (HG.out _).mono ?_
        rintro e w1 ⟨rfl, hb1⟩
        go_wp2
        go_ret2
        exact ⟨rfl, hb1⟩
    · rw [decide_eq_false ht0, Bool.false_and]
      have n0 : t < 0 := by omega
      go_enter Tryz.func23, Tryz.ntmps23
      go_wp2_with fail
      refine (HG.out _).mono ?_
      rintro e w1 ⟨rfl, hb1⟩
      go_wp2
      go_ret2
      exact ⟨rfl, hb1⟩

theorem aft_one (l : List UInt8) : aftB l 1 = okW l := by unfold aftB; cases okW l <;> rfl
set_option maxHeartbeats 1000000 in
theorem implStepWord_any (l : List UInt8) (hl : l.length ≤ 1048576) (w : World) (hM : MaxL w) :
    Calls Tryz.prog 6 #[.string (mkB l)] w fun e w' => e = .returned (.tuple #[.string (strR (okW l) (stp l)), .bool (okW l)]) ∧ Below w.heap.size w w' := by
  have H : Hid (Calls Tryz.prog 23 #[.string (mkB l), .int .i64 1] w fun e w' => e = .returned (.tuple #[.string (strR (okW l) (stp l)), .bool (okW l)]) ∧ Below w.heap.size w w') := Lib.hid (by
    have := implWordAfter_any l 1 hl w hM
    rw [aft_one] at this
    exact this)
  generalize strR (okW l) (stp l) = s at *
  generalize okW l = o at *
  go_enter Tryz.func6, Tryz.ntmps6
  go_wp2_with fail
  refine (H.out).mono ?_
  rintro e w1 ⟨rfl, hb1⟩
  go_wp2
  go_ret2
  exact ⟨rfl, hb1⟩

theorem prefix_face (l : List UInt8) (k : Nat) : Lib.hasPrefix (l.drop k) [114, 108] = faceAt l k := by
  unfold Lib.hasPrefix faceAt
  have h1 : l[k]? = (l.drop k).head? := List.head?_drop.symm
  have h2 : l[k + 1]? = (l.drop k)[1]? := by rw [List.getElem?_drop]
  rw [h1, h2]
  generalize l.drop k = t
  cases t with
  | nil => rfl
  | cons x t =>
    rw [pfx2]
    cases t with
    | nil => simp
    | cons y t => simp
set_option maxHeartbeats 2000000 in
set_option maxRecDepth 100000 in
theorem implFacingPlaces_any (l : List UInt8) (hl : l.length ≤ 1048576) (w : World) :
    Calls Tryz.prog 12 #[.string (mkB l)] w fun e w' => ∃ A n c, e = .returned (.tuple #[.slice A n c, .bool (okW l)]) ∧ n = (lstR (okW l) (natI (facP l l.length))).length ∧ SlOwn intS w' w.heap.size 3 (.slice A n c) (lstR (okW l) (natI (facP l l.length))) ∧ Below w.heap.size w w' := by
  have HG := Lib.hid (fun W => isWord_any (mkB l) hl W)
  rw [mkB_data] at HG
  obtain ⟨i0, hi, hz0, hz1, hz2⟩ := info_parts intInfoW
  cases hok : okW l with
  | false =>
    rw [hok] at HG
    go_enter Tryz.func12, Tryz.ntmps12
    go_wp2_with fail
    refine (HG.out _).mono ?_
    rintro e w1 ⟨rfl, hb1⟩
    go_wp2
    go_ret2
    exact ⟨none, 0, 0, rfl, rfl, SlOwn.nil intS _ _ _, hb1⟩
  | true =>
    have h14 := okW_len hok
    have hz : (mkB l).size = l.length := rfl
    rw [hok] at HG
    go_enter Tryz.func12, Tryz.ntmps12
    go_wp2_with fail
    refine (HG.out _).mono ?_
    rintro e w1 ⟨rfl, hb1⟩
    have HB1 := Lib.hid hb1
    have hs01 := hb1.size
    clear hb1
    go_wp2
    go_loopw [4, 11] (fun v i wr => ∃ (k n : Nat) (A : Option Addr) (c : Nat), k ≤ l.length ∧ i = .int .i64 k ∧ n = (facP l k).length ∧ v = .slice A n c ∧ SlOwn intS wr w1.heap.size 3 (.slice A n c) (natI (facP l k)) ∧ Below w1.heap.size w1 wr)
      (fun _ i _ => l.length - (intOf i).toNat)
    case atStart => exact ⟨0, 0, none, 0, Nat.zero_le _, rfl, rfl, rfl, SlOwn.nil intS _ _ _, Below.refl _ _⟩
    case round =>
      obtain ⟨k, n, A, c, hk, rfl, hn, rfl, hown, hbw⟩ := hrel
      have HO := Lib.hid hown
      have HB := Lib.hid hbw
      have HN := Lib.hid hn
      have hlen := facP_len_le l k
      have hsz := hbw.size
      rw [← hn] at hlen
      clear hown hbw hn
      by_cases hlt : k < l.length
      · have hext : (mkB l).extract k l.length = mkB (l.drop k) := by
          rw [extract_mk, mkB_data, List.take_length]
        have HP : Hid (∀ W, Calls Tryz.prog 39 #[.string (mkB (l.drop k)), .string ⟨#[114, 108]⟩] W fun e w' => e = .returned (.bool (faceAt l k)) ∧ w' = W) := Lib.hid fun W =>
          (Any.strings_HasPrefix prefixT (mkB (l.drop k)) ⟨#[114, 108]⟩ W).mono fun e w' ⟨he, hw⟩ => ⟨by
            rw [he]
            show Ending.returned (.bool (Lib.hasPrefix (l.drop k) [114, 108])) = _
            rw [prefix_face], hw⟩
        have hsu := facP_succ l k
        cases hf : faceAt l k with
        | true =>
          rw [hf] at hsu HP
          have HS : Hid (facP l (k + 1) = facP l k ++ [k]) := Lib.hid (by rw [hsu]; rfl)
          clear hsu hf
          go_wp2_with fail
          refine (HP.out _).mono ?_
          rintro e w2 ⟨rfl, rfl⟩
          go_wp2_with (at_builtin; go_must (refine wpList_append_slsv intS _ rfl _ _ 29 rfl w1.heap.size 3 i0 _ 8 Tryz.underlying29 hi hz0 hz1 hz2 rfl (by decide) (.slice A n c) (natI (facP l k)) rfl (HO.out.allocW _) _ 1 1 [(k : Int)] rfl rfl (slAt_oneW (heap_new rfl)) (by rw [natI_len, ← HN.out, List.length_singleton]; omega) (by simp; omega) ?_); intro A8 n8 c8 w8 hn8 ho8 hb8; obtain rfl : n8 = n + 1 := (by rw [hn8, List.length_append, natI_len, ← HN.out]; rfl); have HO8 := Lib.hid ho8; have HB8 := Lib.hid (((Below.refl w1.heap.size _).alloc (by omega) _).trans hb8); clear hn8 ho8 hb8)
          go_roundw
          case rel => exact ⟨k + 1, n + 1, A8, c8, by omega, by go_num, by rw [HS.out, List.length_append, ← HN.out]; rfl, rfl, by rw [HS.out, natI_snoc]; exact HO8.out, HB.out.trans HB8.out⟩
          case measure => simp [intOf]; omega
        | false =>
          rw [hf] at hsu HP
          have HS : Hid (facP l (k + 1) = facP l k) := Lib.hid (by rw [hsu]; simp)
          clear hsu hf
          go_wp2_with fail
          refine (HP.out _).mono ?_
          rintro e w2 ⟨rfl, rfl⟩
          go_wp2
          go_roundw
          case rel => exact ⟨k + 1, n, A, c, by omega, by go_num, by rw [HS.out, ← HN.out], rfl, by rw [HS.out]; exact HO.out, HB.out⟩
          case measure => simp [intOf]; omega
      · have hke : Hid (k = l.length) := Lib.hid (by omega)
        rw [hke.out] at HO HN
        go_wp2
        go_ret2
        exact ⟨A, n, c, rfl, by rw [HN.out]; exact (natI_len _).symm, own_baseW HO.out hs01, HB1.out.trans (HB.out.mono hs01)⟩

set_option maxHeartbeats 4000000 in
set_option maxRecDepth 100000 in
theorem implMeetingsBySteps_any (l : List UInt8) (hl : l.length ≤ 1048576) (w : World) (hM : MaxL w) :
    Calls Tryz.prog 16 #[.string (mkB l)] w fun e w' => ∃ A n c, e = .returned (.tuple #[.slice A n c, .bool (okW l)]) ∧ n = (lstR (okW l) (natI (metL l))).length ∧ SlOwn intS w' w.heap.size 3 (.slice A n c) (lstR (okW l) (natI (metL l))) ∧ Below w.heap.size w w' := by
  have HG := Lib.hid (fun W => isWord_any (mkB l) hl W)
  have HM := Lib.hid hM
  clear hM
  rw [mkB_data] at HG
  obtain ⟨i0, hi, hz0, hz1, hz2⟩ := info_parts intInfoW
  cases hok : okW l with
  | false =>
    rw [hok] at HG
    go_enter Tryz.func16, Tryz.ntmps16
    go_wp2_with fail
    refine (HG.out _).mono ?_
    rintro e w1 ⟨rfl, hb1⟩
    go_wp2
    go_ret2
    exact ⟨none, 0, 0, rfl, rfl, SlOwn.nil intS _ _ _, hb1⟩
  | true =>
    have h14 := okW_len hok
    have HML := metL_len l h14
    rw [hok] at HG
    go_enter Tryz.func16, Tryz.ntmps16
    go_wp2_with fail
    refine (HG.out _).mono ?_
    rintro e w1 ⟨rfl, hb1⟩
    have HB1 := Lib.hid hb1
    have HM1 := Lib.hid (HM.out.below hb1)
    have hs01 := hb1.size
    clear hb1
    go_wp2
    go_loopw [0, 4] (fun t v wr => ∃ (p : List UInt8) (m : List Nat) (n : Nat) (A : Option Addr) (c : Nat), t = .string (mkB p) ∧ p.length ≤ 14 ∧ metL l = m ++ metL p ∧ n = m.length ∧ v = .slice A n c ∧ SlOwn intS wr w1.heap.size 3 (.slice A n c) (natI m) ∧ Below w1.heap.size w1 wr)
      (fun t _ _ => match t with | .string s => plc 0 s.data.toList | _ => 0)
    case atStart => exact ⟨l, [], 0, none, 0, rfl, h14, rfl, rfl, rfl, SlOwn.nil intS _ _ _, Below.refl _ _⟩
    case round =>
      obtain ⟨p, m, n, A, c, rfl, hp, hm, hn, rfl, hown, hbw⟩ := hrel
      have HO := Lib.hid hown
      have HB := Lib.hid hbw
      have HN := Lib.hid hn
      have HMm := Lib.hid hm
      have HMr := Lib.hid (HM1.out.below hbw)
      have hnl : n ≤ 196 := by rw [hm, List.length_append, ← hn] at HML; omega
      have hsz := hbw.size
      obtain ⟨q, hq⟩ : ∃ q, fcR p = q := ⟨_, rfl⟩
      have HQ := Lib.hid hq
      have hqb : q ≤ 14 := by have := count_two_le p; omega
      have HR := Lib.hid (fun W h => isAtRest_any p (by omega) W h)
      have HC := Lib.hid (fun W h => count_face_any p (by omega) W h)
      rw [hq] at HR HC
      have HST := Lib.hid (fun W h => stepOf_any p (by omega) W h)
      clear hown hbw hn hm hq
      by_cases h0 : q = 0
      · have HE : Hid (metL l = m) := Lib.hid (by rw [HMm.out, metL_rest (by rw [HQ.out, h0]), List.append_nil])
        rw [decide_eq_true h0] at HR
        go_wp2_with fail
        refine (HR.out _ HMr.out).mono ?_
        rintro e w2 ⟨rfl, rfl⟩
        go_wp2
        go_ret2
        exact ⟨A, n, c, rfl, by rw [HE.out]; exact HN.out.trans (natI_len _).symm, by rw [HE.out]; exact own_baseW HO.out hs01, HB1.out.trans (HB.out.mono hs01)⟩
      · have HLF := Lib.hid (met_left HMm.out (by rw [HQ.out]; exact h0))
        have HLT : Hid (plc 0 (stp p) < plc 0 p) := Lib.hid (by have := plc_stp p 0; rw [HQ.out] at this; omega)
        have hsl := stp_len p
        rw [HQ.out] at HLF
        rw [decide_eq_false h0] at HR
        go_wp2_with fail
        refine (HR.out _ HMr.out).mono ?_
        rintro e w2 ⟨rfl, rfl⟩
        go_wp2_with fail
        refine (HC.out _ HMr.out).mono ?_
        rintro e w3 ⟨rfl, rfl⟩
        go_wp2_with (at_builtin; go_must (refine wpList_append_slsv intS _ rfl _ _ 29 rfl w1.heap.size 3 i0 _ 8 Tryz.underlying29 hi hz0 hz1 hz2 rfl (by decide) (.slice A n c) (natI m) rfl (HO.out.allocW _) _ 1 1 [(q : Int)] rfl rfl (slAt_oneW (heap_new rfl)) (by rw [natI_len, ← HN.out, List.length_singleton]; omega) (by simp; omega) ?_); intro A8 n8 c8 w8 hn8 ho8 hb8; obtain rfl : n8 = n + 1 := (by rw [hn8, List.length_append, natI_len, ← HN.out]; rfl); have HO8 := Lib.hid ho8; have HB8 := Lib.hid (((Below.refl w1.heap.size _).alloc (by omega) _).trans hb8); clear hn8 ho8 hb8) <;> skip
        have HB9 := Lib.hid (HB.out.trans HB8.out)
        refine (HST.out _ (HM1.out.below HB9.out)).mono ?_
        rintro e w9 ⟨rfl, hb9⟩
        have HB10 := Lib.hid (HB9.out.trans (hb9.mono HB9.out.size))
        have HO10 := Lib.hid (HO8.out.below hb9)
        clear hb9
        go_wp2
        go_roundw
        case rel => exact ⟨stp p, m ++ [q], n + 1, A8, c8, rfl, by omega, HLF.out, by rw [List.length_append, ← HN.out]; rfl, rfl, by rw [natI_snoc]; exact HO10.out, HB10.out⟩
        case measure => exact HLT.out

theorem lstR_nat_len (o : Bool) (m : List Nat) : (lstR o (natI m)).length = (if o then m.length else 0) := by cases o; rfl; exact natI_len m
set_option maxHeartbeats 1000000 in
theorem implStepsToRest_any (l : List UInt8) (hl : l.length ≤ 1048576) (w : World) (hM : MaxL w) :
    Calls Tryz.prog 8 #[.string (mkB l)] w fun e w' => e = .returned (.tuple #[.int .i64 (intR (okW l) (metL l).length), .bool (okW l)]) ∧ Below w.heap.size w w' := by
  have H : Hid (Calls Tryz.prog 16 #[.string (mkB l)] w fun e w' => ∃ A n c, e = .returned (.tuple #[.slice A n c, .bool (okW l)]) ∧ (n : Int) = intR (okW l) (metL l).length ∧ Below w.heap.size w w') := Lib.hid
    ((implMeetingsBySteps_any l hl w hM).mono (by
      rintro e w' ⟨A, n, c, rfl, hn, _, hb⟩
      refine ⟨A, n, c, rfl, ?_, hb⟩
      rw [hn, lstR_nat_len]; unfold intR; cases okW l <;> rfl))
  generalize intR (okW l) (metL l).length = q at *
  generalize okW l = o at *
  go_enter Tryz.func8, Tryz.ntmps8
  go_wp2_with fail
  refine (H.out).mono ?_
  rintro e w1 ⟨A, n, c, rfl, hn, hb1⟩
  have HN := Lib.hid hn
  clear hn
  go_wp2
  go_ret2
  exact ⟨by rw [← HN.out]; rfl, hb1⟩
end Go.Proofs.YtgdgaldgieiokaaGreatDoor
