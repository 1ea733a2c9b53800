/- Puzzles, the model: all ways that fit (pzAll). -/
import Derived.Test.YtiodlclaempihaaGreatZaB
import Derived.Test.YtiodlclaempihaaGreatSol
import Derived.Test.YtiodlclaempihaaGreatStrZ
namespace Go.Proofs.YtiodlclaempihaaGreat
open Go.RowKit

theorem txB_snocL {ys : List Int} {j : Nat} (hj : j < ys.length) (h : ys.getD j 0 = -1) : txB (ys.take j) ++ ⟨#[108]⟩ = txB (ys.take (j + 1)) := by
  rw [List.getD_eq_getElem?_getD, List.getElem?_eq_getElem hj] at h
  have h' : ys[j] = -1 := h
  rw [List.take_succ_eq_append_getElem hj, h']
  apply ByteArray.ext
  rw [ByteArray.data_append]
  simp [txB, txU]
theorem txB_snocR {ys : List Int} {j : Nat} (hj : j < ys.length) (h : ys.getD j 0 = 1) : txB (ys.take j) ++ ⟨#[114]⟩ = txB (ys.take (j + 1)) := by
  rw [List.getD_eq_getElem?_getD, List.getElem?_eq_getElem hj] at h
  have h' : ys[j] = 1 := h
  rw [List.take_succ_eq_append_getElem hj, h']
  apply ByteArray.ext
  rw [ByteArray.data_append]
  simp [txB, txU]
theorem ysB_tx {ys : List Int} (h : ∀ y ∈ ys, y = -1 ∨ y = 1) : ysB (txB ys).data.toList = ys := by
  show ysB ((txU ys).toArray.toList) = _
  rw [List.toList_toArray]
  unfold ysB txU
  rw [List.map_map]
  conv => rhs; rw [← List.map_id ys]
  apply List.map_congr_left
  intro y hy
  rcases h y hy with rfl | rfl <;> rfl

theorem bit_int (k m : Nat) : ((k : Int) / 2 ^ m).tmod 2 = ((k / 2 ^ m % 2 : Nat) : Int) := by
  have e : (k : Int) / 2 ^ m = ((k / 2 ^ m : Nat) : Int) := by rw [Int.natCast_ediv, Int.natCast_pow]; rfl
  rw [e, Int.tmod_eq_emod_of_nonneg (Int.natCast_nonneg _)]
  omega
set_option maxRecDepth 100000 in
set_option maxHeartbeats 4000000 in
theorem pzAll_any (L : Int) (A C : Option Addr) (c d : Nat) (l : List Int) (cs : List (Int × Int × Int)) (w : World) (hp : hplB L l = true) (hcl : cluesB l.length cs = true) (hc6 : cs.length ≤ 6) (hA : SlAt intS w A l) (hC : SlAt tripS w C cs) :
    Calls Tryz.prog 44 #[.int .i64 L, .slice A l.length c, .slice C cs.length d] w fun e w' => ∃ A' n' c', e = .returned (.slice A' n' c') ∧ n' = (solV L l cs).length ∧ SlOwn strS w' w.heap.size 9 (.slice A' n' c') (solV L l cs) ∧ Below w.heap.size w w' := by
  obtain ⟨hl1, hl8⟩ := hplB_len hp
  have hpl := hplB_plB hp
  have HA := Lib.hid hA
  have HC := Lib.hid hC
  have HPL := Lib.hid hpl
  have HCL := Lib.hid hcl
  have hT : 2 ^ l.length ≤ 256 := by
    have : 2 ^ l.length ≤ 2 ^ 8 := Nat.pow_le_pow_right (by omega) hl8
    omega
  have hw : wrap64 (2 ^ l.length) = ((2 ^ l.length : Nat) : Int) := by
    have e : (2 : Int) ^ l.length = ((2 ^ l.length : Nat) : Int) := by rw [Int.natCast_pow]; rfl
    rw [e]
    have h0 : (0 : Int) ≤ ((2 ^ l.length : Nat) : Int) := Int.natCast_nonneg _
    have h1 : ((2 ^ l.length : Nat) : Int) ≤ 256 := by omega
    generalize ((2 ^ l.length : Nat) : Int) = x at *
    unfold wrap64
    omega
  have HSV : Hid (solV L l cs = solK L l cs (2 ^ l.length)) := rfl
  rw [HSV.out]
  obtain ⟨i0, hi, hz0, hz1, hz2⟩ := info_parts strInfo
  obtain ⟨T, hTe⟩ : ∃ T, T = 2 ^ l.length := ⟨_, rfl⟩
  have hTL : ∀ k, k < T → k < 2 ^ l.length := fun k h => by rw [← hTe]; exact h
  rw [← hTe] at hT hw ⊢
  have HTL := Lib.hid hTL
  clear hTe hTL hA hC hpl hp hcl HSV
  go_enter Tryz.func44, Tryz.ntmps44
  go_wp2
  go_loopw [7, 9] (fun v i wr => ∃ (k : Nat), k ≤ T ∧ i = .int .i64 k ∧ Below w.heap.size w wr ∧ SlOwn strS wr w.heap.size 9 v (solK L l cs k))
    (fun _ i _ => T - (intOf i).toNat)
  case atStart => exact ⟨0, Nat.zero_le _, rfl, Below.refl _ _, SlOwn.nil _ _ _ _⟩
  case round =>
    obtain ⟨W1, rfl⟩ : ∃ W, W = wr := ⟨_, rfl⟩
    obtain ⟨k, hk, rfl, hb, hown⟩ := hrel
    have hsr := hb.size
    obtain ⟨A3, k3, rfl, _, _⟩ := hown.form
    have HBR := Lib.hid hb
    have HOW := Lib.hid hown
    have HKL := Lib.hid (solK_len L l cs k)
    by_cases hlt : k < T
    · have hkl : (k : Int) < (T : Int) := by omega
      have hys := wyN_len l.length k
      have HYA := Lib.hid (fun j hj => wyN_at l.length k j hj)
      have hym := wyN_mem l.length k
      have HG : Hid (goodB L (rdL l (wyN l.length k)) = true) := goodB_rd HPL.out hys hym
      have hrl : (rdL l (wyN l.length k)).length = l.length := rdL_len l _ hys
      have HYES := Lib.hid (solK_yes (L := L) (l := l) (cs := cs) (T := k))
      have HNO := Lib.hid (solK_no (L := L) (l := l) (cs := cs) (T := k))
      have HFK : Hid (fitK L l cs k = fitAll L (rdL l (wyN l.length k)) cs) := rfl
      have HAr := Lib.hid (HA.out.below hb)
      have HCr := Lib.hid (HC.out.below hb)
      have HRO : Hid (∀ W, SlAt intS W A l → Calls Tryz.prog 62 #[.int .i64 L, .slice A l.length c, .string (txB (wyN l.length k))] W fun e w' => ∃ A' c', e = .returned (.agg #[.int .i64 L, .slice A' l.length c']) ∧ AntsAt w' A' (rdL l (wyN l.length k)) ∧ Below W.heap.size W w') := fun W h => by
        refine (pzRod_any L A c l (txB (wyN l.length k)) W (by omega) (by rw [txB_size, hys]) h).mono ?_
        rintro e w' ⟨A', n', c', he, hn', ho, hb'⟩
        rw [ysB_tx hym] at ho
        subst hn'
        exact ⟨A', c', he, slAt_ants ho.sl, hb'⟩
      clear hb hown
      generalize wyN l.length k = ys at *
      go_wp2
      go_loopw [10, 11] (fun s i wz => ∃ j : Nat, j ≤ l.length ∧ i = .int .i64 ((l.length : Int) - 1 - j) ∧ s = .string (txB (ys.take j)) ∧ W1 = wz)
        (fun _ i _ => (intOf i + 1).toNat)
      case atStart => exact ⟨0, Nat.zero_le _, by congr 1; omega, rfl, rfl⟩
      case round =>
        obtain ⟨j, hj, rfl, rfl, rfl⟩ := hrel
        by_cases hjl : j < l.length
        · obtain ⟨m, hm⟩ : ∃ m : Nat, (l.length : Int) - 1 - j = m := ⟨l.length - 1 - j, by omega⟩
          have hm2 : l.length - 1 - j = m := by omega
          rw [hm]
          have hY := HYA.out j hjl
          rw [hm2] at hY
          have hbi := bit_int k m
          have htz : (txB (ys.take j)).size ≤ 8 := by rw [txB_size, List.length_take]; omega
          have HLT := Lib.hid (txB_snocL (ys := ys) (j := j) (by omega))
          have HRT := Lib.hid (txB_snocR (ys := ys) (j := j) (by omega))
          generalize hgt : txB (ys.take j) = tx at *
          have hm0 : (0 : Int) ≤ (m : Int) := by omega
          by_cases hbit : k / 2 ^ m % 2 = 1
          · rw [if_pos hbit] at hY
            have HT := Lib.hid (HRT.out hY)
            have hb0 : (((k : Int) / 2 ^ m).tmod 2 == 0) = false := by rw [hbi, hbit]; rfl
            clear hgt hbi hY hbit HLT HRT
            go_wp2
            go_roundw
            case rel => exact ⟨j + 1, by omega, by congr 1 <;> omega, by rw [HT.out], by first | rfl | trivial⟩
            case measure => simp [intOf] <;> omega
          · rw [if_neg hbit] at hY
            have HT := Lib.hid (HLT.out hY)
            have hb0 : (((k : Int) / 2 ^ m).tmod 2 == 0) = true := by rw [hbi, show k / 2 ^ m % 2 = 0 by omega]; rfl
            clear hgt hbi hY hbit HLT HRT
            go_wp2
            go_roundw
            case rel => exact ⟨j + 1, by omega, by congr 1 <;> omega, by rw [HT.out], by first | rfl | trivial⟩
            case measure => simp [intOf] <;> omega
        · have hjn : j = l.length := by omega
          have htk : ys.take j = ys := by rw [hjn, ← hys, List.take_length]
          rw [htk]
          have hi1 : (l.length : Int) - 1 - j = -1 := by omega
          rw [hi1]
          clear htk hi1 hjn hjl
          generalize txB ys = tx at *
          go_wp2_with fail
          refine (HRO.out _ HAr.out).mono ?_
          rintro e w1 ⟨A5, c5, rfl, hat, hb1⟩
          have hs1 := hb1.size
          have HA5 := Lib.hid (hat.alloc (Obj.cells #[Value.int IntKind.i64 L, Value.slice A5 l.length c5] 71))
          obtain ⟨W5, hW5⟩ : ∃ W, W = w1.alloc (Obj.cells #[Value.int IntKind.i64 L, Value.slice A5 l.length c5] 71) := ⟨_, rfl⟩
          have HB5 : Hid (Below W1.heap.size W1 W5) := by show Below _ _ _; rw [hW5]; exact hb1.alloc hb1.size _
          have r0 : W5.cell? ⟨w1.heap.size, 0, none⟩ = some (.int .i64 L) := by rw [hW5]; simp [go_sem]
          have r1 : W5.cell? ⟨w1.heap.size, 1, none⟩ = some (.slice A5 l.length c5) := by rw [hW5]; simp [go_sem]
          rw [← hW5] at HA5
          have hsW : w1.heap.size + 1 ≤ W5.heap.size := by rw [hW5]; simp
          have R0 := Lib.hid r0
          have R1 := Lib.hid r1
          have HC5 := Lib.hid (HCr.out.below HB5.out)
          have HPF : Hid (∀ (x1 x2 x3 : Int) (W : World), clB l.length x1 x2 x3 = true → AntsAt W A5 (rdL l ys) → Calls Tryz.prog 63 #[.agg #[.int .i64 x1, .int .i64 x2, .int .i64 x3], .agg #[.int .i64 L, .slice A5 l.length c5]] W fun e w' => e = .returned (.bool (fitB L (rdL l ys) x1 x2 x3)) ∧ Below W.heap.size W w') := fun x1 x2 x3 W hx hA => by
            have h := pzFits_any L x1 x2 x3 A5 c5 (rdL l ys) W (by rw [hrl]; exact hx) HG.out hA
            rw [hrl] at h
            exact h
          clear hb1 hat r0 r1
          go_wp2
          rw [← hW5]
          clear hW5
          generalize hgr : rdL l ys = rd at *
          go_loopw [13, 45] (fun v i wr => ∃ q : Nat, q ≤ cs.length ∧ i = .int .i64 q ∧ v = .bool (fitAll L rd (cs.take q)) ∧ Below W5.heap.size W5 wr)
            (fun _ i _ => cs.length - (intOf i).toNat)
          case atStart => exact ⟨0, Nat.zero_le _, rfl, rfl, Below.refl _ _⟩
          case round =>
            obtain ⟨q, hq, rfl, rfl, hbz⟩ := hrel
            have HBZ := Lib.hid hbz
            have hsz := hbz.size
            have r0 := Below.cell_some hbz R0.out
            have r1 := Below.cell_some hbz R1.out
            have HAz := Lib.hid (HA5.out.below hbz)
            have HCz := Lib.hid (HC5.out.below hbz)
            clear hbz
            by_cases hql : q < cs.length
            · obtain ⟨b, off, rfl, l0, a0, a1, a2⟩ := trip_at HCz.out hql
              have hql2 : (q : Int) < (cs.length : Int) := by omega
              have hx : pclB l.length cs[q] = true := List.all_eq_true.1 HCL.out _ (List.getElem_mem hql)
              have HS := Lib.hid (fitAll_snoc L rd cs q hql)
              generalize cs[q] = x at *
              obtain ⟨x1, x2, x3⟩ := x
              simp only at a0 a1 a2
              have HX : Hid (clB l.length x1 x2 x3 = true) := hx
              clear hx
              cases hf : fitAll L rd (cs.take q) with
              | false =>
                have HT : Hid (fitAll L rd (cs.take (q + 1)) = false) := by show _ = _; rw [HS.out, hf]; rfl
                clear hf
                go_wp2
                go_roundw
                case rel => exact ⟨q + 1, by omega, by go_num, by rw [HT.out], HBZ.out.trans ((Below.refl _ _).alloc hsz _)⟩
                case measure => simp [intOf]; omega
              | true =>
                have HT : Hid (fitAll L rd (cs.take (q + 1)) = fitB L rd x1 x2 x3) := by show _ = _; rw [HS.out, hf]; rfl
                have HP := Lib.hid (fun W h => HPF.out x1 x2 x3 W HX.out h)
                have r0a := alloc_some r0 (Obj.cells #[Value.int IntKind.i64 x1, Value.int IntKind.i64 x2, Value.int IntKind.i64 x3] 67)
                have r1a := alloc_some r1 (Obj.cells #[Value.int IntKind.i64 x1, Value.int IntKind.i64 x2, Value.int IntKind.i64 x3] 67)
                clear hf
                generalize fitB L rd x1 x2 x3 = fb at *
                go_wp2_with fail
                refine (HP.out _ (HAz.out.alloc _)).mono ?_
                rintro e w6 ⟨rfl, hb6⟩
                have HB6 : Hid (Below W5.heap.size W5 w6) := HBZ.out.trans (((Below.refl _ _).alloc hsz _).trans (hb6.mono (by simp; omega)))
                clear hb6
                go_wp2
                go_roundw
                case rel => exact ⟨q + 1, by omega, by go_num, by rw [HT.out], HB6.out⟩
                case measure => simp [intOf]; omega
            · obtain rfl : q = cs.length := by omega
              rw [List.take_length]
              have hql2 : ¬ (cs.length : Int) < (cs.length : Int) := by omega
              have HB7 : Hid (Below w.heap.size w wr) := HBR.out.trans ((HB5.out.trans (HBZ.out.mono HB5.out.size)).mono hsr)
              have HO7 : Hid (SlOwn strS wr w.heap.size 9 (.slice A3 (solK L l cs k).length k3) (solK L l cs k)) := HOW.out.below (HB5.out.trans (HBZ.out.mono HB5.out.size))
              have hs7 : w.heap.size ≤ wr.heap.size := HB7.out.size
              cases hf : fitAll L rd cs with
              | false =>
                have HS := Lib.hid (HNO.out (HFK.out.trans hf))
                clear hf
                go_wp2
                go_roundw
                case rel => exact ⟨k + 1, by omega, by go_num, HB7.out, by rw [HS.out]; exact HO7.out⟩
                case measure => simp [intOf]; omega
              | true =>
                have HS := Lib.hid (HYES.out (HFK.out.trans hf))
                clear hf
                generalize solK L l cs k = sk at *
                go_wp2_with (at_builtin; go_must (refine wpList_append_sl strS _ rfl _ _ 27 rfl w.heap.size 9 i0 _ 16 Tryz.underlying27 hi hz0 hz1 hz2 rfl (by decide) _ _ rfl (HO7.out.below ((Below.refl _ _).alloc (Nat.le_refl _) _)) wr.heap.size tx #[.string tx] _ _ rfl (heap_new (by simp)) rfl (by have := HKL.out; omega) (by simp; omega) ?_); intro A8 k8 w8 hown8 hb8 hg8)
                go_roundw
                case rel => exact ⟨k + 1, by omega, by go_num, HB7.out.trans (((Below.refl _ _).alloc hs7 _).trans hb8), by rw [HS.out]; rw [List.length_append] at hown8; exact hown8⟩
                case measure => simp [intOf]; omega
    · obtain rfl : k = T := by omega
      have hkl : ¬ (k : Int) < (k : Int) := by omega
      go_wp2
      go_ret
      exact ⟨A3, _, k3, rfl, rfl, HOW.out, HBR.out⟩
end Go.Proofs.YtiodlclaempihaaGreat
