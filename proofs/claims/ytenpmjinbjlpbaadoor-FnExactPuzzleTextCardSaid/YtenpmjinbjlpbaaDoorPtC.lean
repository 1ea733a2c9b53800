/- PuzzleText, the model. -/
import Derived.Test.YtenpmjinbjlpbaaDoorPtB
namespace Go.Proofs.YtenpmjinbjlpbaaDoor
open Go.RowKit

theorem l1_at (x : Int) (t : ByteArray) (h : numT x.toNat = t) (h0 : 0 ≤ x ∧ x ≤ 1000) {W : World} (y : Ext W) :
    Calls Tryd.prog 70 #[.int .i64 x] y.w fun e w' => e = .returned (.string t) ∧ Below y.w.heap.size y.w w' := by
  subst h; exact l1Num_at x h0.1 h0.2 y.w
set_option maxRecDepth 100000 in
set_option maxHeartbeats 4000000 in
theorem pzText_any (L : Int) (A C : Option Addr) (c d : Nat) (l : List Int) (cs : List (Int × Int × Int)) (w : World) (hz : puzB L l cs = true) (hA : SlAt intS w A l) (hC : SlAt tripS w C cs) :
    Calls Tryd.prog 37 #[.agg #[.int .i64 L, .slice A l.length c, .slice C cs.length d]] w fun e w' => e = .returned (.string (mkB (pzT L l cs))) ∧ Below w.heap.size w w' := by
  have HB0 : Hid (Below w.heap.size w (w.alloc (Obj.cells #[Value.int IntKind.i64 L, Value.slice A l.length c, Value.slice C cs.length d] 49))) := (Below.refl _ _).alloc (Nat.le_refl _) _
  have HA := Lib.hid (hA.below HB0.out)
  have HC := Lib.hid (hC.below HB0.out)
  have HN := Lib.hid (puz_nums hz)
  have hl8 : (l.length : Int) ≤ 8 := by have := HN.out.2.1; omega
  have hc6 : (cs.length : Int) ≤ 6 := by have := HN.out.2.2.1; omega
  have HL1 := Lib.hid (l1Num_at L (by have := HN.out.1; omega) HN.out.1.2)
  rw [numT_mk] at HL1
  have hll : (mkB (dcI L)).size ≤ 4 := dcI_len HN.out.1.2
  have HP1 : Hid (mkB (dcI L) ++ ⟨#[58]⟩ = mkB (dcI L ++ [58] ++ jn 43 (dcs (l.take 0)))) := by
    show mkB (dcI L) ++ mkB [58] = _
    rw [mkB_app]; simp [dcs, jn]
  have HP2 : ∀ k, Hid ((mkB (dcI L ++ [58] ++ jn 43 (dcs (l.take k)))).size ≤ 60) := fun k => by
    show (dcI L ++ [58] ++ jn 43 (dcs (l.take k))).length ≤ 60
    have h1 := jn_dcs_len 43 (l := l.take k) (fun x hx => (HN.out.2.2.2.1 x (List.mem_of_mem_take hx)).2)
    have h2 : (l.take k).length ≤ l.length := by rw [List.length_take]; omega
    have h3 : (dcI L).length ≤ 4 := dcI_len HN.out.1.2
    rw [List.length_append, List.length_append]
    simp only [List.length_cons, List.length_nil]
    omega
  clear hA hC hz
  go_enter Tryd.func37, Tryd.ntmps37
  go_wp2_with fail
  refine (HL1.out _).mono ?_
  rintro e w1 ⟨rfl, hb⟩
  have c1 : w1.cell? ⟨w.heap.size, 1, none⟩ = some (.slice A l.length c) := by rw [hb.cell (p := ⟨w.heap.size, 1, none⟩) (by simp)]; simp [go_sem]
  have c2 : w1.cell? ⟨w.heap.size, 2, none⟩ = some (.slice C cs.length d) := by rw [hb.cell (p := ⟨w.heap.size, 2, none⟩) (by simp)]; simp [go_sem]
  have HB := Lib.hid (HB0.out.trans (hb.mono HB0.out.size))
  have HA1 := Lib.hid (HA.out.below hb)
  have HC1 := Lib.hid (HC.out.below hb)
  have C2 := Lib.hid c2
  have z1 : ¬ 9223372036854775807 < (mkB (dcI L)).size + 1 := by omega
  clear hb c2
  generalize mkB (dcI L) = t1 at *
  go_wp2
  go_loopw [3, 15] (fun v i wr => ∃ k : Nat, k ≤ l.length ∧ i = .int .i64 k ∧ Below w1.heap.size w1 wr ∧ v = .string (mkB (dcI L ++ [58] ++ jn 43 (dcs (l.take k)))))
    (fun _ i _ => l.length - (intOf i).toNat)
  case atStart => exact ⟨0, Nat.zero_le _, rfl, Below.refl _ _, by rw [← HP1.out]⟩
  case round =>
    obtain ⟨k, hk, rfl, hb, rfl⟩ := hrel
    have HBR := Lib.hid hb
    have hsr := hb.size
    have HAr := Lib.hid (HA1.out.below hb)
    have hsz := (HP2 k).out
    by_cases hlt : k < l.length
    · obtain ⟨b, off, rfl, l0, hc⟩ := HAr.out.int_at hlt
      have a0 := hc k _ (List.getElem?_eq_getElem hlt)
      have hq := HN.out.2.2.2.1 l[k] (List.getElem_mem hlt)
      have HI := Lib.hid (fun W => l1Num_at l[k] hq.1 hq.2 W)
      rw [numT_mk] at HI
      have hq4 : (mkB (dcI l[k])).size ≤ 4 := dcI_len hq.2
      have HSN : Hid (jn 43 (dcs (l.take (k + 1))) = if k = 0 then dcI l[k] else jn 43 (dcs (l.take k)) ++ 43 :: dcI l[k]) := by
        show _ = _
        rw [List.take_succ_eq_append_getElem hlt]
        have e : dcs (l.take k ++ [l[k]]) = dcs (l.take k) ++ [dcI l[k]] := by unfold dcs; rw [List.map_append]; rfl
        rw [e, jn_snoc]
        by_cases hk0 : k = 0
        · subst hk0; simp [dcs]
        · rw [if_neg hk0, if_neg (fun h => by have h2 := congrArg List.length h; rw [dcs_len, List.length_take] at h2; simp only [List.length_nil] at h2; omega)]
      have hkl : (k : Int) < (l.length : Int) := by omega
      clear hc hb
      generalize l[k] = x at *
      by_cases hk0 : k = 0
      · subst hk0
        simp only [Nat.add_zero] at a0
        have HFI : Hid (mkB (dcI L ++ [58] ++ jn 43 (dcs (l.take 0))) ++ mkB (dcI x) = mkB (dcI L ++ [58] ++ jn 43 (dcs (l.take (0 + 1))))) := by
          show _ = _
          rw [mkB_app, HSN.out, if_pos rfl]
          simp [dcs, jn]
        generalize mkB (dcI L ++ [58] ++ jn 43 (dcs (l.take 0))) = u at *
        generalize mkB (dcI x) = y at *
        have z2 : ¬ 9223372036854775807 < u.size + y.size := by omega
        go_wp2_with fail
        refine (HI.out _).mono ?_
        rintro e w4 ⟨rfl, hb4⟩
        have HB4 := Lib.hid (HBR.out.trans (hb4.mono hsr))
        clear hb4
        go_wp2
        go_roundw
        case rel => exact ⟨1, by omega, by go_num, HB4.out, by rw [← HFI.out]⟩
        case measure => simp [intOf]; omega
      · have HFI : Hid (mkB (dcI L ++ [58] ++ jn 43 (dcs (l.take k))) ++ ⟨#[43]⟩ ++ mkB (dcI x) = mkB (dcI L ++ [58] ++ jn 43 (dcs (l.take (k + 1))))) := by
          show mkB _ ++ mkB [43] ++ mkB _ = _
          rw [mkB_app, mkB_app, HSN.out, if_neg hk0]
          simp
        have hk2 : (0 : Int) < (k : Int) := by omega
        generalize mkB (dcI L ++ [58] ++ jn 43 (dcs (l.take k))) = u at *
        generalize mkB (dcI x) = y at *
        have z1 : ¬ 9223372036854775807 < u.size + 1 := by omega
        have z2 : ¬ 9223372036854775807 < (u ++ ⟨#[43]⟩).size + y.size := by rw [ByteArray.size_append]; show ¬ 9223372036854775807 < u.size + 1 + y.size; omega
        go_wp2_with fail
        refine (HI.out _).mono ?_
        rintro e w4 ⟨rfl, hb4⟩
        have HB4 := Lib.hid (HBR.out.trans (hb4.mono hsr))
        clear hb4
        go_wp2
        go_roundw
        case rel => exact ⟨k + 1, by omega, by go_num, HB4.out, by rw [← HFI.out]⟩
        case measure => simp [intOf]; omega
    · obtain rfl : k = l.length := by omega
      have HTK : Hid (l.take l.length = l) := List.take_length
      rw [HTK.out] at hsz ⊢
      have C2 := Lib.hid (Below.cell_some hb C2.out)
      have HC1 := Lib.hid (HC1.out.below hb)
      have HBW := Lib.hid (HB.out.trans (hb.mono HB.out.size))
      have c2 := C2.out
      have hkl : ¬ (l.length : Int) < (l.length : Int) := by omega
      have z1 : ¬ 9223372036854775807 < (mkB (dcI L ++ [58] ++ jn 43 (dcs l))).size + 1 := by omega
      obtain ⟨pre, hpre⟩ : ∃ pre, pre = dcI L ++ [58] ++ jn 43 (dcs l) ++ [58] := ⟨_, rfl⟩
      have HPS : Hid (pre.length ≤ 61) := by
        show _ ≤ _
        rw [hpre, List.length_append]
        have : (dcI L ++ [58] ++ jn 43 (dcs l)).length ≤ 60 := hsz
        simp only [List.length_cons, List.length_nil]
        omega
      have HPE : Hid (mkB (dcI L ++ [58] ++ jn 43 (dcs l)) ++ ⟨#[58]⟩ = mkB (pre ++ jn 44 ((cs.take 0).map ctx))) := by
        show mkB _ ++ mkB [58] = _
        rw [mkB_app, hpre]; simp [jn]
      have HPZ : Hid (pzT L l cs = pre ++ jn 44 (cs.map ctx)) := by show _ = _; rw [hpre]; rfl
      clear hpre hb HTK
      generalize mkB (dcI L ++ [58] ++ jn 43 (dcs l)) = u0 at *
      obtain ⟨W1, rfl⟩ : ∃ W, W = wr := ⟨_, rfl⟩
      go_wp2
      go_loopw [3, 34] (fun v i wr => ∃ k : Nat, k ≤ cs.length ∧ i = .int .i64 k ∧ Below W1.heap.size W1 wr ∧ v = .string (mkB (pre ++ jn 44 ((cs.take k).map ctx))))
        (fun _ i _ => cs.length - (intOf i).toNat)
      case atStart => exact ⟨0, Nat.zero_le _, rfl, Below.refl _ _, by rw [← HPE.out]⟩
      case round =>
        obtain ⟨k, hk, rfl, hb, rfl⟩ := hrel
        obtain ⟨V1, rfl⟩ : ∃ W, W = wr := ⟨_, rfl⟩
        have HBR2 := Lib.hid hb
        have hsr2 := hb.size
        have HCr := Lib.hid (HC1.out.below hb)
        have hsz2 : (mkB (pre ++ jn 44 ((cs.take k).map ctx))).size ≤ 200 := by
          show (pre ++ jn 44 ((cs.take k).map ctx)).length ≤ 200
          have h1 := jn_len 44 ((cs.take k).map ctx) 15 (fun y hy => by obtain ⟨x, hx, rfl⟩ := List.mem_map.1 hy; exact ctx_len (HN.out.2.2.2.2 x (List.mem_of_mem_take hx)))
          rw [List.length_map] at h1
          have h2 : (cs.take k).length ≤ cs.length := by rw [List.length_take]; omega
          have h3 := HPS.out
          rw [List.length_append]
          omega
        by_cases hlt : k < cs.length
        · obtain ⟨b, off, rfl, l0, hc⟩ := HCr.out.trip_at hlt
          obtain ⟨a0, a1, a2⟩ := hc k _ (List.getElem?_eq_getElem hlt)
          have hq := HN.out.2.2.2.2 cs[k] (List.getElem_mem hlt)
          have HSN : Hid (jn 44 ((cs.take (k + 1)).map ctx) = if k = 0 then ctx cs[k] else jn 44 ((cs.take k).map ctx) ++ 44 :: ctx cs[k]) := by
            show _ = _
            rw [List.take_succ_eq_append_getElem hlt, List.map_append]
            have e : [cs[k]].map ctx = [ctx cs[k]] := rfl
            rw [e, jn_snoc]
            by_cases hk0 : k = 0
            · subst hk0; simp
            · rw [if_neg hk0, if_neg (fun h => by have h2 := congrArg List.length h; rw [List.length_map, List.length_take] at h2; simp only [List.length_nil] at h2; omega)]
          have HCT : Hid (ctx cs[k] = dcI cs[k].1 ++ [46] ++ dcI cs[k].2.1 ++ [46] ++ dcI cs[k].2.2) := by show _ = _; simp [ctx, dcs, jn]
          have hkl : (k : Int) < (cs.length : Int) := by omega
          clear hc hb
          generalize ctx cs[k] = cx at *
          generalize cs[k] = x at *
          obtain ⟨x1, x2, x3⟩ := x
          simp only at a0 a1 a2 hq HCT
          obtain ⟨W4, hW4⟩ : ∃ W, W = V1.alloc (Obj.cells #[Value.int IntKind.i64 x1, Value.int IntKind.i64 x2, Value.int IntKind.i64 x3] 74) := ⟨_, rfl⟩
          have e0 : W4.cell? ⟨V1.heap.size, 0, none⟩ = some (.int .i64 x1) := by rw [hW4]; simp
          have e1 : W4.cell? ⟨V1.heap.size, 1, none⟩ = some (.int .i64 x2) := by rw [hW4]; simp
          have e2 : W4.cell? ⟨V1.heap.size, 2, none⟩ = some (.int .i64 x3) := by rw [hW4]; simp
          have HB4 : Hid (Below W1.heap.size W1 W4) := by show Below _ _ _; rw [hW4]; exact HBR2.out.alloc HBR2.out.size _
          have hd1 : (mkB (dcI x1)).size ≤ 4 := dcI_len hq.1.2
          have hd2 : (mkB (dcI x2)).size ≤ 4 := dcI_len hq.2.1.2
          have hd3 : (mkB (dcI x3)).size ≤ 4 := dcI_len hq.2.2.2
          have HR1 : Hid (∀ y : Ext W4, Calls Tryd.prog 70 #[.int .i64 x1] y.w fun e w' => e = .returned (.string (mkB (dcI x1))) ∧ Below y.w.heap.size y.w w') := fun y => l1_at x1 _ (numT_mk x1) hq.1 y
          have HR2 : Hid (∀ y : Ext W4, Calls Tryd.prog 70 #[.int .i64 x2] y.w fun e w' => e = .returned (.string (mkB (dcI x2))) ∧ Below y.w.heap.size y.w w') := fun y => l1_at x2 _ (numT_mk x2) hq.2.1 y
          have HR3 : Hid (∀ y : Ext W4, Calls Tryd.prog 70 #[.int .i64 x3] y.w fun e w' => e = .returned (.string (mkB (dcI x3))) ∧ Below y.w.heap.size y.w w') := fun y => l1_at x3 _ (numT_mk x3) hq.2.2 y
          have g0 := Ext.cell e0
          have g1 := Ext.cell e1
          have g2 := Ext.cell e2
          have HCX : Hid (mkB (dcI x1) ++ ⟨#[46]⟩ ++ mkB (dcI x2) ++ ⟨#[46]⟩ ++ mkB (dcI x3) = mkB cx) := by
            show mkB _ ++ mkB [46] ++ mkB _ ++ mkB [46] ++ mkB _ = _
            rw [mkB_app, mkB_app, mkB_app, mkB_app, HCT.out]
          have HFA : Hid (k = 0 → mkB (pre ++ jn 44 ((cs.take k).map ctx)) ++ mkB cx = mkB (pre ++ jn 44 ((cs.take (k + 1)).map ctx))) := by
            show k = 0 → _
            intro hk0
            rw [mkB_app, HSN.out, if_pos hk0, hk0]
            simp [jn]
          have HFB : Hid (k ≠ 0 → mkB (pre ++ jn 44 ((cs.take k).map ctx)) ++ ⟨#[44]⟩ ++ mkB cx = mkB (pre ++ jn 44 ((cs.take (k + 1)).map ctx))) := by
            show k ≠ 0 → mkB _ ++ mkB [44] ++ mkB _ = _
            intro hk0
            rw [mkB_app, mkB_app, HSN.out, if_neg hk0]
            simp
          rw [← HCX.out] at HFA HFB
          generalize mkB (pre ++ jn 44 ((cs.take k).map ctx)) = u at *
          generalize mkB (dcI x1) = t2 at *
          generalize mkB (dcI x2) = t3 at *
          generalize mkB (dcI x3) = t4 at *
          have z1 : ¬ 9223372036854775807 < t2.size + 1 := by omega
          have z2 : ¬ 9223372036854775807 < (t2 ++ ⟨#[46]⟩).size + t3.size := by rw [ByteArray.size_append]; show ¬ 9223372036854775807 < t2.size + 1 + t3.size; omega
          have z3 : ¬ 9223372036854775807 < (t2 ++ ⟨#[46]⟩ ++ t3).size + 1 := by rw [ByteArray.size_append, ByteArray.size_append]; show ¬ 9223372036854775807 < t2.size + 1 + t3.size + 1; omega
          have z4 : ¬ 9223372036854775807 < (t2 ++ ⟨#[46]⟩ ++ t3 ++ ⟨#[46]⟩).size + t4.size := by rw [ByteArray.size_append, ByteArray.size_append, ByteArray.size_append]; show ¬ 9223372036854775807 < t2.size + 1 + t3.size + 1 + t4.size; omega
          have z5 : ¬ 9223372036854775807 < u.size + (t2 ++ ⟨#[46]⟩ ++ t3 ++ ⟨#[46]⟩ ++ t4).size := by rw [ByteArray.size_append, ByteArray.size_append, ByteArray.size_append, ByteArray.size_append]; show ¬ 9223372036854775807 < u.size + (t2.size + 1 + t3.size + 1 + t4.size); omega
          have z6 : ¬ 9223372036854775807 < (u ++ ⟨#[44]⟩).size + (t2 ++ ⟨#[46]⟩ ++ t3 ++ ⟨#[46]⟩ ++ t4).size := by rw [ByteArray.size_append, ByteArray.size_append, ByteArray.size_append, ByteArray.size_append, ByteArray.size_append]; show ¬ 9223372036854775807 < u.size + 1 + (t2.size + 1 + t3.size + 1 + t4.size); omega
          have z7 : ¬ 9223372036854775807 < u.size + 1 := by omega
          by_cases hk0 : k = 0
          · subst hk0
            simp only [Nat.zero_mul, Nat.add_zero] at a0 a1 a2
            have HFI := Lib.hid (HFA.out rfl)
            clear HFA HFB
            go_wp2
            rw [← hW4]
            refine wp_region_ext (by kernel_rfl) (by kernel_rfl) ?_
            repeat (first | go_big_quiet_skip | (go_big_quiet_want; go_big_quiet_op; first | go_big_quiet_on | (apply Exists.intro; refine ⟨fun _ => ?_, ?_⟩; (first | (go_at_call 70; with_reducible exact Ext.call (HR1.out _)) | (go_at_call 70; with_reducible exact Ext.call (HR2.out _)) | (go_at_call 70; with_reducible exact Ext.call (HR3.out _))); go_big_quiet_on)))
            refine wpQuiet_nil ?_
            rintro _ ⟨y, rfl⟩
            go_wp2
            go_roundw
            case rel => exact ⟨1, by omega, by go_num, HB4.out.trans (y.h.mono HB4.out.size), by rw [← HFI.out]⟩
            case measure => simp [intOf]; omega
          · have hk2 : (0 : Int) < (k : Int) := by omega
            have HFI := Lib.hid (HFB.out hk0)
            clear HFA HFB
            go_wp2
            rw [← hW4]
            refine wp_region_ext (by kernel_rfl) (by kernel_rfl) ?_
            repeat (first | go_big_quiet_skip | (go_big_quiet_want; go_big_quiet_op; first | go_big_quiet_on | (apply Exists.intro; refine ⟨fun _ => ?_, ?_⟩; (first | (go_at_call 70; with_reducible exact Ext.call (HR1.out _)) | (go_at_call 70; with_reducible exact Ext.call (HR2.out _)) | (go_at_call 70; with_reducible exact Ext.call (HR3.out _))); go_big_quiet_on)))
            refine wpQuiet_nil ?_
            rintro _ ⟨y, rfl⟩
            go_wp2
            go_roundw
            case rel => exact ⟨k + 1, by omega, by go_num, HB4.out.trans (y.h.mono HB4.out.size), by rw [← HFI.out]⟩
            case measure => simp [intOf]; omega
        · obtain rfl : k = cs.length := by omega
          have HTK : Hid (cs.take cs.length = cs) := List.take_length
          have HFI : Hid (mkB (pre ++ jn 44 ((cs.take cs.length).map ctx)) = mkB (pzT L l cs)) := by show _ = _; rw [HTK.out, HPZ.out]
          rw [HFI.out]
          have hkl : ¬ (cs.length : Int) < (cs.length : Int) := by omega
          go_wp2
          go_ret
          exact ⟨rfl, HBW.out.trans (hb.mono HBW.out.size)⟩
set_option maxHeartbeats 1000000 in
theorem specPT_any (L : Int) (A C : Option Addr) (c d : Nat) (l : List Int) (cs : List (Int × Int × Int)) (w : World) (hn : (l.length : Int) ≤ 9223372036854775807) (_hm : (cs.length : Int) ≤ 9223372036854775807) (hA : SlAt intS w A l) (hC : SlAt tripS w C cs) :
    Calls Tryd.prog 17 #[.agg #[.int .i64 L, .slice A l.length c, .slice C cs.length d]] w fun e w' => e = .returned (.tuple #[.string (mkB (ptV L l cs)), .bool (puzB L l cs)]) ∧ Below w.heap.size w w' := by
  have HA := Lib.hid (hA.alloc (Obj.cells #[Value.int IntKind.i64 L, Value.slice A l.length c, Value.slice C cs.length d] 49))
  have HC := Lib.hid (hC.alloc (Obj.cells #[Value.int IntKind.i64 L, Value.slice A l.length c, Value.slice C cs.length d] 49))
  clear hA hC
  cases hz : puzB L l cs with
  | false =>
    have HV : Hid (ptV L l cs = []) := by show _ = _; unfold ptV; rw [hz]; rfl
    have HG := Lib.hid (fun w h h' => pzGood_at L A C c d l cs false hz w hn h h')
    clear hz
    go_enter Tryd.func17, Tryd.ntmps17
    go_wp2_with fail
    refine (HG.out _ HA.out HC.out).mono ?_
    rintro e w1 ⟨rfl, hb⟩
    go_wp2
    go_ret2
    exact ⟨by rw [HV.out]; rfl, ((Below.refl _ _).alloc (Nat.le_refl _) _).trans (hb.mono (by simp))⟩
  | true =>
    have HV : Hid (ptV L l cs = pzT L l cs) := by show _ = _; unfold ptV; rw [hz]; rfl
    have HG := Lib.hid (fun w h h' => pzGood_at L A C c d l cs true hz w hn h h')
    have HT := Lib.hid (fun w h h' => pzText_any L A C c d l cs w hz h h')
    rw [HV.out]
    clear hz
    go_enter Tryd.func17, Tryd.ntmps17
    go_wp2_with fail
    refine (HG.out _ HA.out HC.out).mono ?_
    rintro e w1 ⟨rfl, hb⟩
    have c0 : w1.cell? ⟨w.heap.size, 0, none⟩ = some (.int .i64 L) := by rw [hb.cell (p := ⟨w.heap.size, 0, none⟩) (by simp)]; simp [go_sem]
    have c1 : w1.cell? ⟨w.heap.size, 1, none⟩ = some (.slice A l.length c) := by rw [hb.cell (p := ⟨w.heap.size, 1, none⟩) (by simp)]; simp [go_sem]
    have c2 : w1.cell? ⟨w.heap.size, 2, none⟩ = some (.slice C cs.length d) := by rw [hb.cell (p := ⟨w.heap.size, 2, none⟩) (by simp)]; simp [go_sem]
    have HB := Lib.hid (((Below.refl _ w).alloc (Nat.le_refl _) _).trans (hb.mono (by simp)))
    have HA1 := Lib.hid (HA.out.below hb)
    have HC1 := Lib.hid (HC.out.below hb)
    clear hb
    go_wp2_with fail
    refine (HT.out _ HA1.out HC1.out).mono ?_
    rintro e w2 ⟨rfl, hb2⟩
    have HB2 := Lib.hid (HB.out.trans (hb2.mono HB.out.size))
    clear hb2
    go_wp2
    go_ret2
    exact ⟨rfl, HB2.out⟩
end Go.Proofs.YtenpmjinbjlpbaaDoor
